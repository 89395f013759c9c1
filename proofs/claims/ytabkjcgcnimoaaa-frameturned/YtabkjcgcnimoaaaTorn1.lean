/- A list of lists of bytes that came in; what 'long' and 'Is' of the statements answer. -/
import Derived.Test.YtabkjcgcnimoaaaFr10
import Derived.Test.YtabkjcgcnimoaaaFrLives
import Derived.Test.YtabkjcgcnimoaaaShell
import Derived.Deep.Matrix
namespace Go.Proofs.Ytabkjcgcnimoaaa
open Go.ChangeShapes Go.WideShapes Go.ChangeAt Go.RowKit
set_option maxRecDepth 8000

/-- A list of bytes as it stands in a list. -/
structure Pcd where
  ao : Option Addr
  cap : Nat
  ys : List Int

def Pcd.v (p : Pcd) : Value := .slice p.ao p.ys.length p.cap
def Good (w : World) (p : Pcd) : Prop := Sees w p.v p.ys ∧ Byts p.ys

/-- The slice value leads to these lists of bytes. -/
def SeesPs (w : World) (v : Value) (ps : List Pcd) : Prop :=
  ∃ (ao : Option Addr) (cap : Nat), v = .slice ao ps.length cap ∧ ps.length ≤ cap ∧ cap ≤ maxLen ∧ (∀ p ∈ ps, Good w p) ∧ (ps = [] ∨ ∃ b off, ao = some ⟨b, off, none⟩ ∧ ∀ i (h : i < ps.length), w.cell? ⟨b, off + i, none⟩ = some ps[i].v)

theorem Good.below {w w' : World} {p : Pcd} (h : Good w p) (hb : Below w.heap.size w w') : Good w' p := ⟨h.1.below hb (Nat.le_refl _), h.2⟩

/-- What the reading of a [][]byte gives. -/
theorem open_ps {H : Type} {enc : TypeId × Value → H} {W : World} {base fuel : Nat} {held : Bool} {a : Option Addr} {len cap : Nat} {x : DataW H × List MemPlace}
    (h : DataW.trod enc Try.prog W base (fun _ => true) held fuel 22 [.slice a len cap] = some x) : ∃ ps : List Pcd, ps.length = len ∧ SeesPs W (.slice a len cap) ps := by
  rcases Deep.open_int_rows Try.underlying22 Try.underlying25 Try.underlying5 (by kernel_rfl) (by kernel_rfl) h with ⟨hcs, _⟩ | ⟨a', l, c, A, L, C, Z, hcs, _, hl, hm, _, hr⟩
  · simp at hcs
    obtain ⟨rfl, rfl, rfl⟩ := hcs
    exact ⟨[], rfl, ⟨none, 0, rfl, Nat.le_refl _, by unfold maxLen; omega, fun p hp => by simp at hp, .inl rfl⟩⟩
  · simp at hcs
    obtain ⟨rfl, rfl, rfl⟩ := hcs
    have hL : ∀ r, r < len → ((Z r).take (L r)).length = L r := fun r h => by
      obtain ⟨_, h1, _, h3, _⟩ := hr r (by omega)
      simp; omega
    have hl' : ((List.range len).map fun r => (⟨A r, C r, (Z r).take (L r)⟩ : Pcd)).length = len := by simp
    refine ⟨(List.range len).map fun r => ⟨A r, C r, (Z r).take (L r)⟩, hl', some a', cap, by rw [hl'], by omega, hm, fun p hp => ?_, ?_⟩
    · obtain ⟨r, hr', rfl⟩ := List.mem_map.1 hp
      have hlt := List.mem_range.1 hr'
      obtain ⟨_, h1, h2, h3, h4, h5, h6⟩ := hr r (by omega)
      have e := hL r hlt
      refine ⟨⟨A r, C r, rfl, by simp only [e]; exact h1, h2, h5, ?_⟩, fun y hy => bounds_u8 (h4 y (List.mem_of_mem_take hy))⟩
      by_cases h0 : L r = 0
      · exact .inl (by simp [h0])
      · cases hA : A r with
        | none => have := h5 hA; omega
        | some ad =>
          obtain ⟨b, off, spot⟩ := ad
          have hc := (h6 _ hA).2 0 (by omega)
          have hspot : spot = none := by simpa [Addr.add] using World.cell?_spot hc
          subst hspot
          refine .inr ⟨b, off, rfl, fun i hi => ?_⟩
          simp only [e] at hi
          have := (h6 _ hA).2 i (by omega)
          rw [addr_add] at this
          rw [this]
          simp [List.getD_eq_getElem?_getD, hi]
    · by_cases h0 : len = 0
      · subst h0; exact .inl rfl
      · obtain ⟨b, off, spot⟩ := a'
        have hc := (hr 0 (by omega)).1
        have hspot : spot = none := by simpa [Addr.add] using World.cell?_spot hc
        subst hspot
        refine .inr ⟨b, off, rfl, fun i hi => ?_⟩
        rw [hl'] at hi
        have := (hr i (by omega)).1
        rw [addr_add] at this
        simp only [List.getElem_map, List.getElem_range, Pcd.v, hL i hi]
        exact this

/-- How much lists of bytes come to. -/
def bulk : List Pcd → Nat
  | [] => 0
  | p :: l => p.ys.length + 10 + bulk l

theorem bulk_append (a b : List Pcd) : bulk (a ++ b) = bulk a + bulk b := by
  induction a with
  | nil => simp [bulk]
  | cons o r ih => simp only [List.cons_append, bulk, ih]; omega
theorem bulk_next {ps : List Pcd} {k : Nat} (h : k < ps.length) : bulk (ps.take (k + 1)) = bulk (ps.take k) + (ps[k].ys.length + 10) := by
  rw [List.take_succ_eq_append_getElem h, bulk_append]; simp [bulk]
theorem bulk_take (ps : List Pcd) (k : Nat) : bulk (ps.take k) ≤ bulk ps := by
  conv => rhs; rw [← List.take_append_drop k ps, bulk_append]
  omega

theorem is_any (v : Value) (xs : List Int) (w : World) (h : Sees w v xs) : Calls Try.prog 14 #[v] w fun e w' => e = .returned (.bool (isSz xs.length)) ∧ w' = w := by
  obtain ⟨ao, cap, rfl, g1, g2, g0, g3⟩ := h
  clear g3 g0
  unfold maxLen at g2
  unfold isSz
  by_cases h1 : 1 ≤ (xs.length : Int)
  · by_cases h2 : (xs.length : Int) ≤ 1048576
    · have d1 : decide (1 ≤ (xs.length : Int)) = true := by simp only [decide_eq_true_eq]; exact h1
      have d2 : decide ((xs.length : Int) ≤ 1048576) = true := by simp only [decide_eq_true_eq]; exact h2
      go_enter Try.func14, Try.ntmps14
      go_wp2
      go_ret
      exact ⟨by first | rfl | (rw [d1, d2]; rfl), rfl⟩
    · have d1 : decide (1 ≤ (xs.length : Int)) = true := by simp only [decide_eq_true_eq]; exact h1
      have d2 : decide ((xs.length : Int) ≤ 1048576) = false := by simp only [decide_eq_false_iff_not]; exact h2
      go_enter Try.func14, Try.ntmps14
      go_wp2
      go_ret
      exact ⟨by first | rfl | (rw [d1, d2]; rfl), rfl⟩
  · have d1 : decide (1 ≤ (xs.length : Int)) = false := by simp only [decide_eq_false_iff_not]; exact h1
    go_enter Try.func14, Try.ntmps14
    go_wp2
    go_ret
    exact ⟨by first | rfl | (rw [d1]; rfl), rfl⟩

set_option maxHeartbeats 400000 in
theorem long3_any (v : Value) (ps : List Pcd) (w : World) (h : SeesPs w v ps) :
    Calls Try.prog 6 #[v] w fun e w' => ∃ r, e = .returned (.bool r) ∧ (r = false → bulk ps ≤ 1073741823) ∧ ∃ m, w' = w.drewN m := by
  obtain ⟨ao, cap, rfl, hlc, hcm, hg, h3⟩ := h
  unfold maxLen at hcm
  have HG : Hid (∀ p ∈ ps, Good w p) := hg
  clear hg
  go_enter Try.func6, Try.ntmps6
  go_wp2
  go_loopw [3, 4] (fun n i wr => ∃ k m : Nat, k ≤ ps.length ∧ i = .int .i64 k ∧ n = .int .i64 (bulk (ps.take k)) ∧ bulk (ps.take k) ≤ 2147483656 ∧ wr = w.drewN m) (fun _ i _ => ps.length - (intOf i).toNat)
  case atStart => exact ⟨0, 0, Nat.zero_le _, rfl, rfl, by simp [bulk], rfl⟩
  case round =>
    obtain ⟨k, m, hk, rfl, rfl, hbd, rfl⟩ := hrel
    by_cases hlt : k < ps.length
    · have d0 : decide ((k : Int) < ps.length) = true := by simp; omega
      by_cases hle : bulk (ps.take k) ≤ 1073741823
      · have d1 : decide ((bulk (ps.take k) : Int) ≤ 1073741823) = true := by simp only [decide_eq_true_eq]; omega
        rcases h3 with h3 | ⟨b, off, rfl, h3⟩
        · subst h3; simp at hlt
        · have hc := h3 k hlt
          have HN : Hid _ := bulk_next hlt
          obtain ⟨g1, g2⟩ : ps[k].ys.length ≤ ps[k].cap ∧ ps[k].cap ≤ 9223372036854775807 := by
            obtain ⟨_, _, e, h1, h2, _⟩ := (HG.out ps[k] (List.getElem_mem hlt)).1
            simp [Pcd.v] at e
            obtain ⟨_, e⟩ := e
            unfold maxLen at h2
            omega
          unfold Pcd.v at hc
          clear h3
          generalize ps[k].ys.length = n at *
          generalize ps[k].ao = po at *
          generalize ps[k].cap = pc at *
          by_cases hb : 1073741823 < n
          · have d2 : decide (1073741823 < (n : Int)) = true := by simp only [decide_eq_true_eq]; omega
            go_wp2
            go_ret
            exact ⟨true, rfl, (fun e => by simp at e), m, rfl⟩
          · have d2 : decide (1073741823 < (n : Int)) = false := by simp only [decide_eq_false_iff_not]; omega
            go_wp2
            go_roundw
            case rel => exact ⟨k + 1, m, by omega, by go_num, by rw [HN.out]; exact congrArg (Value.int .i64) (by omega), by rw [HN.out]; omega, rfl⟩
            case measure => simp [intOf]; omega
      · have d1 : decide ((bulk (ps.take k) : Int) ≤ 1073741823) = false := by simp only [decide_eq_false_iff_not]; omega
        have d2 : decide (1073741823 < (bulk (ps.take k) : Int)) = true := by simp only [decide_eq_true_eq]; omega
        clear h3
        go_wp2
        go_ret
        exact ⟨_, rfl, (fun e => by first | (simp at e) | (rw [d2] at e; simp at e)), m, rfl⟩
    · have d0 : decide ((k : Int) < ps.length) = false := by simp; omega
      obtain rfl : k = ps.length := by omega
      rw [List.take_length] at *
      clear h3
      go_wp2
      go_ret
      exact ⟨_, rfl, (fun e => by simp at e; omega), m, rfl⟩

end Go.Proofs.Ytabkjcgcnimoaaa
