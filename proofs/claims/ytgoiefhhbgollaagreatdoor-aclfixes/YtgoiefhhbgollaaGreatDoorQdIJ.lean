/- What the document's Check and CheckIds answer. -/
import Derived.Test.YtgoiefhhbgollaaGreatDoorQdAJ
import Derived.Test.YtgoiefhhbgollaaGreatDoorQcOJ
import Derived.Test.YtgoiefhhbgollaaGreatDoorQcQJ
namespace Go.Proofs.YtgoiefhhbgollaaGreatDoor
open Go.RowKit Go.Shelf
set_option maxRecDepth 8000

set_option maxHeartbeats 2000000 in
theorem refCheck_any (v : Value) (l : List EnT) (w : World) (h : SE w v l) (hsz : ∀ x ∈ l, x.2.2.size ≤ 4294967296) :
    Calls Tryz.prog 20 #[v] w fun e w' => e = .returned (erV (enLs l)) ∧ Below w.heap.size w w' := by
  obtain ⟨ao, cap, rfl, hlc, HC⟩ := SE_cells h
  have HZ : Hid (∀ x ∈ l, x.2.2.size ≤ 4294967296) := hsz
  clear h hsz
  obtain ⟨res, hres⟩ : ∃ res, res = enLs l := ⟨_, rfl⟩
  rw [← hres]
  have HR : Hid (res = enLs l) := hres
  clear hres
  have hg : Tryz.prog.eqGuardType Tryz.prog.depth 39 = false := by kernel_rfl
  by_cases h4 : 4 < l.length
  · have d0 : decide (4 < (l.length : Int)) = true := by simp; omega
    have hX : res = false := by rw [HR.out]; unfold enLs; rw [decide_eq_false (by omega)]; rfl
    subst hX
    clear HC HR
    go_enter Tryz.func20, Tryz.ntmps20
    go_wp2
    go_ret
    exact ⟨rfl, Below.refl _ _⟩
  have d0 : decide (4 < (l.length : Int)) = false := by simp; omega
  go_enter Tryz.func20, Tryz.ntmps20
  go_wp2
  go_loopw [3] (fun vi wr => ∃ i : Nat, i ≤ l.length ∧ vi = .int .i64 (i : Int) ∧ Hid (lok enOk enEq l i = true) ∧ Hid (Below w.heap.size w wr)) (fun vi _ => l.length - (intOf vi).toNat)
  case atStart => exact ⟨0, Nat.zero_le _, rfl, rfl, Below.refl _ _⟩
  case round =>
    obtain ⟨i, hi, rfl, HK, HB⟩ := hrel
    by_cases hlt : i < l.length
    · have d1 : decide ((i : Int) < (l.length : Int)) = true := by simp; omega
      obtain ⟨b, off, rfl, k0, k1, k2⟩ := HC.out i hlt
      have hx : l[i]? = some l[i] := List.getElem?_eq_getElem hlt
      have hmem : l[i] ∈ l := List.getElem_mem hlt
      have l0 := cell_below HB.out k0
      have l1 := cell_below HB.out k1
      have l2 := cell_below HB.out k2
      generalize l[i] = x at *
      have HX0 : Hid (l[i]? = some x) := hx
      have HXm : Hid (x ∈ l) := hmem
      have HOf := (ofEntry_any x.2.1 x.2.2 (HZ.out x hmem) wr)
      rw [enD_enR] at HOf
      clear hx hmem
      obtain ⟨wo, hwo⟩ : ∃ wo, wo = wr := ⟨_, rfl⟩
      subst hwo
      go_wp2_with fail
      go_at_call 54
      refine HOf.mono ?_
      rintro e w1 ⟨rfl, hB⟩
      have HB1 : Hid (Below w.heap.size w w1) := HB.out.trans (hB.mono HB.out.size)
      have l0 := cell_below HB1.out k0
      have l1 := cell_below HB1.out k1
      have l2 := cell_below HB1.out k2
      clear hB HOf HB
      cases hD : enD x.2.1.data.toList x.2.2.data.toList
      · have hX : res = false := by
          rw [HR.out]
          unfold enLs
          rw [lok_bad HX0.out (by unfold enOk; rw [hD]; simp), Bool.and_false]
        subst hX
        clear hD HR HC HK
        go_wp2
        go_ret
        exact ⟨rfl, HB1.out⟩
      by_cases hp : x.1 < 1 ∨ 31 < x.1
      · have hX : res = false := by
          rw [HR.out]
          unfold enLs
          rw [lok_bad HX0.out (by unfold enOk; rw [decide_eq_false (by omega)]; rfl), Bool.and_false]
        subst hX
        clear hD HR HC HK
        rcases hp with hp | hp
        · have p0 : decide (x.1 < 1) = true := by simp; omega
          go_wp2
          go_ret
          exact ⟨rfl, HB1.out⟩
        · have p0 : decide (x.1 < 1) = false := by simp; omega
          have p1 : decide (31 < x.1) = true := by simp; omega
          go_wp2
          go_ret
          exact ⟨rfl, HB1.out⟩
      have p0 : decide (x.1 < 1) = false := by simp; omega
      have p1 : decide (31 < x.1) = false := by simp; omega
      have HOk : Hid (enOk x = true) := by show _ = _; unfold enOk; rw [hD, decide_eq_true (by omega)]; rfl
      clear hD
      go_wp2
      go_loopw [5] (fun vk wr => ∃ k : Nat, k ≤ i ∧ vk = .int .i64 (k : Int) ∧ Hid (((l.take k).any fun z => enEq x z) = false) ∧ Hid (Below w.heap.size w wr)) (fun vk _ => i - (intOf vk).toNat)
      case atStart => exact ⟨0, Nat.zero_le _, rfl, rfl, HB1.out⟩
      case round =>
        obtain ⟨k, hk, rfl, HA, HB2⟩ := hrel
        by_cases hki : k < i
        · have d2 : decide ((k : Int) < (i : Int)) = true := by simp; omega
          have hkl : k < l.length := by omega
          obtain ⟨b', off', hbo, m0, m1, m2⟩ := HC.out k hkl
          simp only [Option.some.injEq, Addr.mk.injEq, and_true] at hbo
          obtain ⟨rfl, rfl⟩ := hbo
          have n0 := cell_below HB2.out m0
          have o0 := cell_below HB2.out k0
          have n1 := cell_below HB2.out m1
          have o1 := cell_below HB2.out k1
          have n2 := cell_below HB2.out m2
          have o2 := cell_below HB2.out k2
          obtain ⟨y, hy⟩ : ∃ y, y = l[k] := ⟨_, rfl⟩
          have HYk : Hid (l[k]? = some y) := by show _ = _; rw [hy]; exact List.getElem?_eq_getElem hkl
          rw [← hy] at m0 n0 m1 n1 m2 n2
          clear hy m0 k0 l0 m1 k1 l1 m2 k2 l2 HC
          have hq := eqEnV y.1 x.1 y.2.1 y.2.2 x.2.1 x.2.2
          have hif := ifE y x
          cases hyx : enEq y x
          · have HN : Hid (((l.take (k + 1)).any fun z => enEq x z) = false) := by
              show _ = _
              rw [List.take_add_one, HYk.out, List.any_append, HA.out]
              show (false || (enEq x y || false)) = false
              rw [Bool.or_false, Bool.false_or, Bool.eq_false_iff]
              intro hxy
              rw [(enEq_iff x y).1 hxy, (enEq_iff y y).2 rfl] at hyx
              cases hyx
            rw [hyx] at hif
            unfold enEq at hyx
            rw [hyx] at hq
            clear hyx
            go_wp2
            go_quiet (fail)
            go_wp2
            go_roundw
            case rel => exact ⟨k + 1, by omega, by go_num, HN, below_drewN HB2.out _⟩
            case measure => simp [intOf]; omega
          · have hX : res = false := by
              rw [HR.out]
              unfold enLs
              rw [lok_bad HX0.out (by
                have hin : ((l.take i).any fun z => enEq x z) = true := by
                  rw [any_eq enEq_iff]
                  refine List.mem_of_getElem? (i := k) ?_
                  rw [List.getElem?_take, if_pos hki, HYk.out, (enEq_iff y x).1 hyx]
                rw [hin, Bool.not_true, Bool.and_false]), Bool.and_false]
            subst hX
            rw [hyx] at hif
            unfold enEq at hyx
            rw [hyx] at hq
            clear hyx HR HK HX0
            go_wp2
            go_quiet (fail)
            go_wp2
            go_ret
            exact ⟨rfl, below_drewN HB2.out _⟩
        · have d2 : decide ((k : Int) < (i : Int)) = false := by simp; omega
          have HK2 : Hid (lok enOk enEq l (i + 1) = true) := by
            show _ = _
            obtain rfl : k = i := by omega
            rw [lok_step HX0.out, HK.out, HOk.out, HA.out]
            rfl
          clear HC HR HK HX0 HA k0 l0 k1 l1 k2 l2
          go_wp2
          go_roundw
          case rel => exact ⟨i + 1, by omega, by go_num, HK2, HB2.out⟩
          case measure => simp [intOf]; omega
    · have d1 : decide ((i : Int) < (l.length : Int)) = false := by simp; omega
      have hX : res = true := by
        rw [HR.out]
        unfold enLs
        rw [decide_eq_true (by omega), ← show i = l.length by omega, HK.out]
        rfl
      subst hX
      clear HC HR HK
      go_wp2
      go_ret
      exact ⟨rfl, HB.out⟩

set_option maxHeartbeats 2000000 in
theorem refCheckIds_any (v : Value) (l : List IdT) (w : World) (h : SI w v l) (hsz : ∀ x ∈ l, x.2.size ≤ 4294967296) :
    Calls Tryz.prog 21 #[v] w fun e w' => e = .returned (erV (idLs l)) ∧ Below w.heap.size w w' := by
  obtain ⟨ao, cap, rfl, hlc, HC⟩ := SI_cells h
  have HZ : Hid (∀ x ∈ l, x.2.size ≤ 4294967296) := hsz
  clear h hsz
  obtain ⟨res, hres⟩ : ∃ res, res = idLs l := ⟨_, rfl⟩
  rw [← hres]
  have HR : Hid (res = idLs l) := hres
  clear hres
  have hg : Tryz.prog.eqGuardType Tryz.prog.depth 37 = false := by kernel_rfl
  by_cases h4 : 4 < l.length
  · have d0 : decide (4 < (l.length : Int)) = true := by simp; omega
    have hX : res = false := by rw [HR.out]; unfold idLs; rw [decide_eq_false (by omega)]; rfl
    subst hX
    clear HC HR
    go_enter Tryz.func21, Tryz.ntmps21
    go_wp2
    go_ret
    exact ⟨rfl, Below.refl _ _⟩
  have d0 : decide (4 < (l.length : Int)) = false := by simp; omega
  go_enter Tryz.func21, Tryz.ntmps21
  go_wp2
  go_loopw [3] (fun vi wr => ∃ i : Nat, i ≤ l.length ∧ vi = .int .i64 (i : Int) ∧ Hid (lok idOk idEq l i = true) ∧ Hid (Below w.heap.size w wr)) (fun vi _ => l.length - (intOf vi).toNat)
  case atStart => exact ⟨0, Nat.zero_le _, rfl, rfl, Below.refl _ _⟩
  case round =>
    obtain ⟨i, hi, rfl, HK, HB⟩ := hrel
    by_cases hlt : i < l.length
    · have d1 : decide ((i : Int) < (l.length : Int)) = true := by simp; omega
      obtain ⟨b, off, rfl, k0, k1⟩ := HC.out i hlt
      have hx : l[i]? = some l[i] := List.getElem?_eq_getElem hlt
      have hmem : l[i] ∈ l := List.getElem_mem hlt
      have l0 := cell_below HB.out k0
      have l1 := cell_below HB.out k1
      generalize l[i] = x at *
      have HX0 : Hid (l[i]? = some x) := hx
      have HXm : Hid (x ∈ l) := hmem
      have HOf := (ofClient_any x.1 x.2 (HZ.out x hmem) wr)
      rw [clD_clR] at HOf
      clear hx hmem
      obtain ⟨wo, hwo⟩ : ∃ wo, wo = wr := ⟨_, rfl⟩
      subst hwo
      go_wp2_with fail
      go_at_call 55
      refine HOf.mono ?_
      rintro e w1 ⟨rfl, hB⟩
      have HB1 : Hid (Below w.heap.size w w1) := HB.out.trans (hB.mono HB.out.size)
      have l0 := cell_below HB1.out k0
      have l1 := cell_below HB1.out k1
      clear hB HOf HB
      cases hD : clD x.1.data.toList x.2.data.toList
      · have hX : res = false := by
          rw [HR.out]
          unfold idLs
          rw [lok_bad HX0.out (by unfold idOk; rw [hD]; simp), Bool.and_false]
        subst hX
        clear hD HR HC HK
        go_wp2
        go_ret
        exact ⟨rfl, HB1.out⟩
      have HOk : Hid (idOk x = true) := hD
      clear hD
      go_wp2
      go_loopw [5] (fun vk wr => ∃ k : Nat, k ≤ i ∧ vk = .int .i64 (k : Int) ∧ Hid (((l.take k).any fun z => idEq x z) = false) ∧ Hid (Below w.heap.size w wr)) (fun vk _ => i - (intOf vk).toNat)
      case atStart => exact ⟨0, Nat.zero_le _, rfl, rfl, HB1.out⟩
      case round =>
        obtain ⟨k, hk, rfl, HA, HB2⟩ := hrel
        by_cases hki : k < i
        · have d2 : decide ((k : Int) < (i : Int)) = true := by simp; omega
          have hkl : k < l.length := by omega
          obtain ⟨b', off', hbo, m0, m1⟩ := HC.out k hkl
          simp only [Option.some.injEq, Addr.mk.injEq, and_true] at hbo
          obtain ⟨rfl, rfl⟩ := hbo
          have n0 := cell_below HB2.out m0
          have o0 := cell_below HB2.out k0
          have n1 := cell_below HB2.out m1
          have o1 := cell_below HB2.out k1
          obtain ⟨y, hy⟩ : ∃ y, y = l[k] := ⟨_, rfl⟩
          have HYk : Hid (l[k]? = some y) := by show _ = _; rw [hy]; exact List.getElem?_eq_getElem hkl
          rw [← hy] at m0 n0 m1 n1
          clear hy m0 k0 l0 m1 k1 l1 HC
          have hq := eqIdV y.1 y.2 x.1 x.2
          have hif := ifI y x
          cases hyx : idEq y x
          · have HN : Hid (((l.take (k + 1)).any fun z => idEq x z) = false) := by
              show _ = _
              rw [List.take_add_one, HYk.out, List.any_append, HA.out]
              show (false || (idEq x y || false)) = false
              rw [Bool.or_false, Bool.false_or, Bool.eq_false_iff]
              intro hxy
              rw [(idEq_iff x y).1 hxy, (idEq_iff y y).2 rfl] at hyx
              cases hyx
            rw [hyx] at hif
            unfold idEq at hyx
            rw [hyx] at hq
            clear hyx
            go_wp2
            go_quiet (fail)
            go_wp2
            go_roundw
            case rel => exact ⟨k + 1, by omega, by go_num, HN, below_drewN HB2.out _⟩
            case measure => simp [intOf]; omega
          · have hX : res = false := by
              rw [HR.out]
              unfold idLs
              rw [lok_bad HX0.out (by
                have hin : ((l.take i).any fun z => idEq x z) = true := by
                  rw [any_eq idEq_iff]
                  refine List.mem_of_getElem? (i := k) ?_
                  rw [List.getElem?_take, if_pos hki, HYk.out, (idEq_iff y x).1 hyx]
                rw [hin, Bool.not_true, Bool.and_false]), Bool.and_false]
            subst hX
            rw [hyx] at hif
            unfold idEq at hyx
            rw [hyx] at hq
            clear hyx HR HK HX0
            go_wp2
            go_quiet (fail)
            go_wp2
            go_ret
            exact ⟨rfl, below_drewN HB2.out _⟩
        · have d2 : decide ((k : Int) < (i : Int)) = false := by simp; omega
          have HK2 : Hid (lok idOk idEq l (i + 1) = true) := by
            show _ = _
            obtain rfl : k = i := by omega
            rw [lok_step HX0.out, HK.out, HOk.out, HA.out]
            rfl
          clear HC HR HK HX0 HA k0 l0 k1 l1
          go_wp2
          go_roundw
          case rel => exact ⟨i + 1, by omega, by go_num, HK2, HB2.out⟩
          case measure => simp [intOf]; omega
    · have d1 : decide ((i : Int) < (l.length : Int)) = false := by simp; omega
      have hX : res = true := by
        rw [HR.out]
        unfold idLs
        rw [decide_eq_true (by omega), ← show i = l.length by omega, HK.out]
        rfl
      subst hX
      clear HC HR HK
      go_wp2
      go_ret
      exact ⟨rfl, HB.out⟩

end Go.Proofs.YtgoiefhhbgollaaGreatDoor
