/- What the document's Meets answers where both ids are ips, and so for every two ids: the program's metD. -/
import Derived.Test.YtjakjbfeaiempaaDoorQcOJ
import Derived.BigQuiet
namespace Go.Proofs.YtjakjbfeaiempaaDoor
open Go.RowKit Go.Shelf
set_option maxRecDepth 8000

/-- Two numbers agree in their first k of 32 bits. -/
def agr (X Y k : Nat) : Prop := ∀ i, i < k → X / 2 ^ (31 - i) % 2 = Y / 2 ^ (31 - i) % 2

theorem agr_wit {xs ys : List Nat} (hx : Four xs) (hy : Four ys) {n : Nat} (hn : n ≤ 32) : metA n xs ys = true ↔ agr (numA xs) (numA ys) n := by
  rw [metA_bits hx hy hn]
  constructor
  · intro h i hi
    rw [numA_bit hx (by omega), numA_bit hy (by omega)]
    exact h i hi
  · intro h i hi
    have := h i hi
    rw [numA_bit hx (by omega), numA_bit hy (by omega)] at this
    exact this

theorem numA_lt {xs : List Nat} (hx : Four xs) : numA xs ≤ 4294967295 := by
  obtain ⟨a, b, c, d, rfl, ha, hb, hc, hd⟩ := hx
  show (((0 * 256 + a) * 256 + b) * 256 + c) * 256 + d ≤ _
  omega

theorem and_low (X k : Nat) : bits .and .i64 ((X : Int) / 2 ^ k) 1 = ((X / 2 ^ k % 2 : Nat) : Int) := by
  have e : ((X : Int) / 2 ^ k) = ((X / 2 ^ k : Nat) : Int) := by simp
  rw [e]
  generalize X / 2 ^ k = Z at *
  have e2 : (BitVec.ofInt 64 (Z : Int) &&& BitVec.ofInt 64 1).toNat = Z % 2 := by
    rw [BitVec.toNat_and]
    show (BitVec.ofInt 64 (Z : Int)).toNat &&& 1 = _
    rw [Nat.and_one_is_mod, BitVec.toNat_ofInt]
    omega
  unfold bits
  show IntKind.i64.wrap ((BitVec.ofInt 64 (Z : Int) &&& BitVec.ofInt 64 1).toNat : Int) = _
  rw [e2]
  have h2 : Z % 2 = 0 ∨ Z % 2 = 1 := by omega
  rcases h2 with h2 | h2 <;> rw [h2] <;> rfl

set_option maxHeartbeats 2000000 in
theorem refMeets_ip (es en ws wn : ByteArray) (h1 : es.data.toList = sIp) (h3 : ws.data.toList = sIp) (hs : en.size ≤ 4294967296) (ht : wn.size ≤ 4294967296) (w : World) :
    Calls Tryd.prog 34 #[.agg #[.string es, .string en], .agg #[.string ws, .string wn]] w fun e w' => e = .returned (.bool (metD es.data.toList en.data.toList ws.data.toList wn.data.toList)) ∧ Below w.heap.size w w' := by
  obtain ⟨val, hval⟩ : ∃ val, val = metD es.data.toList en.data.toList ws.data.toList wn.data.toList := ⟨_, rfl⟩
  rw [← hval]
  have HE : Hid (Calls Tryd.prog 26 #[.agg #[.string es, .string en]] ((w.alloc (.cells #[.string es, .string en] 37)).alloc (.cells #[.string ws, .string wn] 37)) fun e w' => e = .returned (.bool (enD es.data.toList en.data.toList)) ∧ Hid (RefM w es en ws wn w')) :=
    (ofEntry_any es en hs _).mono (fun e w' hh => ⟨by rw [hh.1, enD_enR], (RefM_new w es en ws wn).below hh.2⟩)
  have HC : Hid (∀ V, RefM w es en ws wn V → Calls Tryd.prog 27 #[.agg #[.string ws, .string wn]] V fun e w' => e = .returned (.bool (clD ws.data.toList wn.data.toList)) ∧ Hid (RefM w es en ws wn w')) := fun V hV =>
    (ofClient_any ws wn ht V).mono (fun e w' hh => ⟨by rw [hh.1, clD_clR], hV.below hh.2⟩)
  unfold metD at hval
  have HV : Hid (val = (enD es.data.toList en.data.toList && clD ws.data.toList wn.data.toList && (if es.data.toList = sWorld then true else if es.data.toList = sIp then decide (ws.data.toList = sIp) && witD en.data.toList wn.data.toList else if es.data.toList = sName then decide (ws.data.toList = sName) && decide (en.data.toList = wn.data.toList) else false))) := hval
  have e0 := eqT es [119, 111, 114, 108, 100]
  have e1 := eqT es [105, 112]
  have e2 := eqT es [110, 97, 109, 101]
  have e3 := eqT ws [105, 112]
  cases hbe : enD es.data.toList en.data.toList
  · rw [hbe] at HE HV
    have hv : val = false := HV.out
    clear HV hval e0 e1 e2 e3
    subst hv
    go_enter Tryd.func34, Tryd.ntmps34
    go_wp2_with fail
    refine (HE.out).mono ?_
    rintro e w1 ⟨rfl, H1⟩
    have HC1 := HC.out w1 H1.out
    obtain ⟨q0, q1, q2, q3, _⟩ := H1.out
    go_wp2_with fail
    refine HC1.mono ?_
    rintro e w2 ⟨rfl, H2⟩
    clear q0 q1 q2 q3
    obtain ⟨q0, q1, q2, q3, _⟩ := H2.out
    go_wp2
    all_goals (go_ret; exact ⟨rfl, H2.out.2.2.2.2⟩)
  rw [hbe] at HE HV
  cases hbc : clD ws.data.toList wn.data.toList
  · rw [hbc] at HC HV
    have hv : val = false := HV.out
    clear HV hval e0 e1 e2 e3
    subst hv
    go_enter Tryd.func34, Tryd.ntmps34
    go_wp2_with fail
    refine (HE.out).mono ?_
    rintro e w1 ⟨rfl, H1⟩
    have HC1 := HC.out w1 H1.out
    obtain ⟨q0, q1, q2, q3, _⟩ := H1.out
    go_wp2_with fail
    refine HC1.mono ?_
    rintro e w2 ⟨rfl, H2⟩
    clear q0 q1 q2 q3
    obtain ⟨q0, q1, q2, q3, _⟩ := H2.out
    go_wp2
    all_goals (go_ret; exact ⟨rfl, H2.out.2.2.2.2⟩)
  rw [hbc] at HC HV
  go_enter Tryd.func34, Tryd.ntmps34
  go_wp2_with fail
  refine (HE.out).mono ?_
  rintro e w1 ⟨rfl, H1⟩
  have HC1 := HC.out w1 H1.out
  obtain ⟨q0, q1, q2, q3, _⟩ := H1.out
  go_wp2_with fail
  refine HC1.mono ?_
  rintro e w2 ⟨rfl, H2⟩
  clear q0 q1 q2 q3 HC1 HE HC H1
  obtain ⟨q0, q1, q2, q3, _⟩ := H2.out
  have h0 : es.data.toList ≠ sWorld := by rw [h1]; decide
  have hn : es.data.toList ≠ sName := by rw [h1]; decide
  rw [decide_eq_false (show ¬ es.data.toList = [119, 111, 114, 108, 100] from h0)] at e0
  rw [decide_eq_true (show es.data.toList = [105, 112] from h1)] at e1
  rw [decide_eq_false (show ¬ es.data.toList = [110, 97, 109, 101] from hn)] at e2
  rw [decide_eq_true (show ws.data.toList = [105, 112] from h3)] at e3
  have hX : val = witD en.data.toList wn.data.toList := by rw [HV.out, if_neg h0, if_pos h1, decide_eq_true h3]; simp
  have hE : (rngD en.data.toList).isSome = true := by unfold enD at hbe; rw [if_neg h0, if_pos h1] at hbe; exact hbe
  have hC : (adD wn.data.toList).isSome = true := by unfold clD at hbc; rw [if_pos h3] at hbc; exact hbc
  obtain ⟨⟨xs, n⟩, hr⟩ := Option.isSome_iff_exists.1 hE
  obtain ⟨ys, ha⟩ := Option.isSome_iff_exists.1 hC
  obtain ⟨r1, fx, hn32⟩ := (rngD_rngR _).1 xs n hr
  have fy := adD_four ha
  have a1 : adr wn.data.toList 4 = some (numA ys, wn.data.toList.length) := by
    obtain ⟨_, _, _, _, _, _, _, _, _, e⟩ := (adD_adr _).1 ys ha
    exact e
  obtain ⟨X, hXd⟩ : ∃ X, X = numA xs := ⟨_, rfl⟩
  obtain ⟨Y, hYd⟩ : ∃ Y, Y = numA ys := ⟨_, rfl⟩
  have hXl : X ≤ 4294967295 := by rw [hXd]; exact numA_lt fx
  have hYl : Y ≤ 4294967295 := by rw [hYd]; exact numA_lt fy
  have HX : Hid (val = true ↔ agr X Y n) := by
    show _ ↔ _
    rw [hX, hXd, hYd]
    unfold witD
    rw [hr, ha]
    exact agr_wit fx fy hn32
  have HR : Hid (∀ V, Calls Tryd.prog 40 #[.string en] V fun e w' => e = .returned (.tuple #[.int .i64 (X : Int), .int .i64 (n : Int), .bool true]) ∧ w' = V) := by
    intro V
    have := range_any en hs V
    unfold rngV at this
    rw [r1, ← hXd] at this
    exact this
  have HA : Hid (∀ V, Calls Tryd.prog 42 #[.string wn] V fun e w' => e = .returned (.tuple #[.int .i64 (Y : Int), .int .i64 (wn.data.toList.length : Int), .bool true]) ∧ w' = V) := by
    intro V
    have := address_any wn ht V
    unfold addrV at this
    rw [a1, ← hYd] at this
    exact this
  clear h0 h1 h3 hn hval HV hX hE hC hr ha r1 fx fy a1 hXd hYd hbe hbc
  go_wp2_with fail
  go_at_call 40
  refine (HR.out _).mono ?_
  rintro e w3 ⟨rfl, rfl⟩
  go_wp2_with fail
  go_at_call 42
  refine (HA.out _).mono ?_
  rintro e w4 ⟨rfl, rfl⟩
  go_wp2
  go_loopw [13] (fun vi wr => ∃ i : Nat, i ≤ n ∧ vi = .int .i64 (i : Int) ∧ Hid (agr X Y i) ∧ Hid (Below w.heap.size w wr)) (fun vi _ => n - (intOf vi).toNat)
  case atStart => exact ⟨0, Nat.zero_le _, rfl, fun i hi => by omega, H2.out.2.2.2.2⟩
  case round =>
    obtain ⟨i, hi, rfl, HG, HW⟩ := hrel
    by_cases hlt : i < n
    · have d0 : decide ((i : Int) < (n : Int)) = true := by simp; omega
      go_wp2
      go_quiet (fail)
      go_wp2
      · rename_i hq
        rw [and_low, and_low, bne_iff_ne] at hq
        go_ret
        refine ⟨?_, below_drewN HW.out _⟩
        have : val = false := by
          cases hv : val
          · rfl
          · exact absurd (HX.out.1 hv i hlt) (fun h => hq (by rw [h]))
        rw [this]
        rfl
      · rename_i hq
        rw [and_low, and_low, bne_eq_false_iff_eq] at hq
        refine ⟨⟨i + 1, hlt, rfl, fun j hj => ?_, below_drewN HW.out _⟩, by simp [intOf]; omega⟩
        by_cases hji : j < i
        · exact HG.out j hji
        · obtain rfl : j = i := by omega
          exact Int.ofNat.inj hq
    · have d0 : decide ((i : Int) < (n : Int)) = false := by simp; omega
      go_wp2
      go_ret
      obtain rfl : i = n := by omega
      exact ⟨by rw [HX.out.2 HG.out]; rfl, HW.out⟩

theorem refMeets_any (es en ws wn : ByteArray) (hs : en.size ≤ 4294967296) (ht : wn.size ≤ 4294967296) (w : World) :
    Calls Tryd.prog 34 #[.agg #[.string es, .string en], .agg #[.string ws, .string wn]] w fun e w' => e = .returned (.bool (metD es.data.toList en.data.toList ws.data.toList wn.data.toList)) ∧ Below w.heap.size w w' := by
  by_cases h : es.data.toList = sIp ∧ ws.data.toList = sIp
  · exact refMeets_ip es en ws wn h.1 h.2 hs ht w
  · exact refMeets_plain es en ws wn h hs ht w

end Go.Proofs.YtjakjbfeaiempaaDoor

