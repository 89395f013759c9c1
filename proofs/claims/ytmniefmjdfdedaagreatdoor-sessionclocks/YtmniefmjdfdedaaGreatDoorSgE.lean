/- same of the law, EqSessions of lagoonref00: of lists that hold the same. -/
import Derived.Test.YtmniefmjdfdedaaGreatDoorSgD
import Derived.Laws.StructEq
namespace Go.Proofs.YtmniefmjdfdedaaGreatDoor
open Go.RowKit Go.Shelf
set_option maxRecDepth 8000
set_option linter.unusedSimpArgs false

theorem same_any {w : World} {B B' : Nat} {v u : Value} {l : List Int} (hv : OI w B v l) (hu : OI w B' u l) (hl : l.length ≤ 1000000) : Calls Tryz.prog 20 #[v, u] w fun e w' => e = .returned (.bool true) ∧ Hid (Kept w w' (fun _ => False)) := by
  have HV : Hid (∀ wr, Kept w wr (fun _ => False) → OI wr B v l ∧ OI wr B' u l) := fun wr hk => ⟨rowK hv hk (fun _ _ e => e), rowK hu hk (fun _ _ e => e)⟩
  obtain ⟨va, vc, rfl⟩ := rowS hv
  obtain ⟨ua, uc, rfl⟩ := rowS hu
  obtain ⟨n, hn⟩ : ∃ n, n = l.length := ⟨_, rfl⟩
  have HN : Hid (n = l.length) := hn
  have hnn : ((n : Int) != (n : Int)) = false := by simp
  clear hv hu
  rw [← hn] at HV hl ⊢
  clear hn
  go_enter Tryz.func20, Tryz.ntmps20
  go_wp2
  clear hnn
  go_loopw [5] (fun vi wr => ∃ i : Nat, i ≤ n ∧ vi = .int .i64 (i : Int) ∧ Hid (Kept w wr (fun _ => False))) (fun vi _ => n - (intOf vi).toNat)
  case atStart => exact ⟨0, by omega, rfl, Kept.refl _ _⟩
  case round =>
    obtain ⟨i, hi, rfl, HK⟩ := hrel
    by_cases hlt : i < n
    · have hd : decide ((i : Int) < (n : Int)) = true := by simp; omega
      obtain ⟨x, hx⟩ : ∃ x, l[i]? = some x := ⟨_, List.getElem?_eq_getElem (by rw [← HN.out]; exact hlt)⟩
      obtain ⟨g, cap, e, hcap, k1⟩ := oi_cell (HV.out wr HK.out).1 hx
      obtain ⟨g', cap', e', hcap', k2⟩ := oi_cell (HV.out wr HK.out).2 hx
      rw [← HN.out] at e e' hcap hcap'
      simp only [Value.slice.injEq, true_and] at e e'
      obtain ⟨rfl, rfl⟩ := e
      obtain ⟨rfl, rfl⟩ := e'
      have hg : g < wr.heap.size := World.block_lt_of_cell? wr _ k1
      have hg' : g' < wr.heap.size := World.block_lt_of_cell? wr _ k2
      have ige : (0 : Int) ≤ (i : Int) := by omega
      have ilt : (i : Int) < (n : Int) := by omega
      have hxx : (x != x) = false := by simp
      have HK2 : ∀ n, Hid (Kept w (wr.drewN n) (fun _ => False)) := fun n => HK.out.drewN n
      clear hx HK
      go_wp2
      go_quiet (fail)
      go_wp2
      go_roundw
      case rel => exact ⟨i + 1, by omega, by simp <;> omega, HK2 _⟩
      case measure => simp [intOf] <;> omega
    · have hd : decide ((i : Int) < (n : Int)) = false := by simp; omega
      go_wp2
      all_goals (go_ret; exact ⟨rfl, HK⟩)

theorem neqSs (a b : Int) (w : World) : (binOp .neq 93 (.agg #[.int .i64 a, .int .i32 b]) (.agg #[.int .i64 a, .int .i32 b])).run Tryz.prog w = .ok (.bool false) w := by
  have hu : Tryz.prog.underlying 93 = some (.struct (Tryz.prog.fieldsOf 93)) := by kernel_rfl
  have hp : Tryz.prog.stoodInHeld 93 = false := by kernel_rfl
  have u3 := Tryz.underlying2
  have a3 := Tryz.isAgg2
  have z3 := Tryz.sizeOf2
  have u4 := Tryz.underlying21
  have a4 := Tryz.isAgg21
  have z4 := Tryz.sizeOf21
  rw [run_neq_struct, show (10000 : Nat) = 9999 + 1 from rfl, run_equalIn_agg w 9999 _ _ _ hu hp]
  simp only [Program.fieldsOf, Tryz.underlying93]
  go_simp

theorem os_cell {w : World} {base : Nat} {v : Value} {l : List (Int × Int)} (h : OS w base v l) {i : Nat} {x : Int × Int} (hx : l[i]? = some x) : ∃ g cap, v = .slice (some ⟨g, 0, none⟩) l.length cap ∧ l.length ≤ cap ∧ w.cell? ⟨g, i * 2, none⟩ = some (.int .i64 x.1) ∧ w.cell? ⟨g, i * 2 + 1, none⟩ = some (.int .i32 x.2) := by
  have h1 := ss_at hx
  obtain ⟨g, cap, e, e2, e3, _⟩ := row_cell h h1.1
  obtain ⟨g', cap', e', _, e3', _⟩ := row_cell h h1.2
  rw [e'] at e
  simp only [Value.slice.injEq, Option.some.injEq, Addr.mk.injEq, and_true, true_and] at e
  obtain ⟨rfl, rfl⟩ := e
  exact ⟨_, _, e', e2, e3, e3'⟩
theorem eqSessions_any {w : World} {B B' : Nat} {v u : Value} {l : List (Int × Int)} (hv : OS w B v l) (hu : OS w B' u l) (hl : l.length ≤ 1000000) : Calls Tryz.prog 24 #[v, u] w fun e w' => e = .returned (.bool true) ∧ Hid (Kept w w' (fun _ => False)) := by
  have HV : Hid (∀ wr, Kept w wr (fun _ => False) → OS wr B v l ∧ OS wr B' u l) := fun wr hk => ⟨rowK hv hk (fun _ _ e => e), rowK hu hk (fun _ _ e => e)⟩
  obtain ⟨va, vc, rfl⟩ := rowS hv
  obtain ⟨ua, uc, rfl⟩ := rowS hu
  obtain ⟨n, hn⟩ : ∃ n, n = l.length := ⟨_, rfl⟩
  have HN : Hid (n = l.length) := hn
  have hnn : ((n : Int) != (n : Int)) = false := by simp
  clear hv hu
  rw [← hn] at HV hl ⊢
  clear hn
  go_enter Tryz.func24, Tryz.ntmps24
  go_wp2
  clear hnn
  go_loopw [5] (fun vi wr => ∃ i : Nat, i ≤ n ∧ vi = .int .i64 (i : Int) ∧ Hid (Kept w wr (fun _ => False))) (fun vi _ => n - (intOf vi).toNat)
  case atStart => exact ⟨0, by omega, rfl, Kept.refl _ _⟩
  case round =>
    obtain ⟨i, hi, rfl, HK⟩ := hrel
    by_cases hlt : i < n
    · have hd : decide ((i : Int) < (n : Int)) = true := by simp; omega
      obtain ⟨⟨x, y⟩, hx⟩ : ∃ x, l[i]? = some x := ⟨_, List.getElem?_eq_getElem (by rw [← HN.out]; exact hlt)⟩
      obtain ⟨g, cap, e, hcap, k1, k2⟩ := os_cell (HV.out wr HK.out).1 hx
      obtain ⟨g', cap', e', hcap', k3, k4⟩ := os_cell (HV.out wr HK.out).2 hx
      rw [← HN.out] at e e' hcap hcap'
      simp only [Value.slice.injEq, true_and] at e e'
      obtain ⟨rfl, rfl⟩ := e
      obtain ⟨rfl, rfl⟩ := e'
      have hg : g < wr.heap.size := World.block_lt_of_cell? wr _ k1
      have hg' : g' < wr.heap.size := World.block_lt_of_cell? wr _ k3
      have ige : (0 : Int) ≤ (i : Int) := by omega
      have ilt : (i : Int) < (n : Int) := by omega
      have hxx := neqSs x y
      have HK2 : ∀ n, Hid (Kept w (wr.drewN n) (fun _ => False)) := fun n => HK.out.drewN n
      clear hx HK
      go_wp2
      go_quiet (fail)
      go_wp2
      go_roundw
      case rel => exact ⟨i + 1, by omega, by simp <;> omega, HK2 _⟩
      case measure => simp [intOf] <;> omega
    · have hd : decide ((i : Int) < (n : Int)) = false := by simp; omega
      go_wp2
      all_goals (go_ret; exact ⟨rfl, HK⟩)

end Go.Proofs.YtmniefmjdfdedaaGreatDoor
