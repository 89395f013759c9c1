/- lagoonlaw06.long: lists that it lets through are within bounds. -/
import Derived.Test.YtgoiefhhbgollaaGreatDoorQcEJ
import Derived.BigQuiet
namespace Go.Proofs.YtgoiefhhbgollaaGreatDoor
open Go.RowKit Go.Shelf
set_option maxRecDepth 8000

/-- What a list of ids weighs. -/
def bulkI : List IdT → Nat
  | [] => 0
  | x :: t => 1 + x.1.size + x.2.size + bulkI t
def bulkE (l : List EnT) : Nat := bulkI (l.map Prod.snd)

theorem bulkI_append (a b : List IdT) : bulkI (a ++ b) = bulkI a + bulkI b := by
  induction a with
  | nil => simp [bulkI]
  | cons x t ih => simp only [List.cons_append, bulkI, ih]; omega

theorem bulkI_next {l : List IdT} {k : Nat} (h : k < l.length) : bulkI (l.take (k + 1)) = bulkI (l.take k) + 1 + l[k].1.size + l[k].2.size := by
  rw [List.take_add_one, List.getElem?_eq_getElem h, bulkI_append]
  simp only [Option.toList, bulkI]
  omega

theorem bulkE_next {l : List EnT} {k : Nat} (h : k < l.length) : bulkE (l.take (k + 1)) = bulkE (l.take k) + 1 + l[k].2.1.size + l[k].2.2.size := by
  unfold bulkE
  rw [List.map_take, List.map_take, bulkI_next (by rw [List.length_map]; exact h), List.getElem_map]

theorem bulkI_mem {l : List IdT} {x : IdT} (h : x ∈ l) : x.1.size + x.2.size < bulkI l := by
  induction l with
  | nil => cases h
  | cons y t ih =>
    simp only [bulkI]
    rcases List.mem_cons.1 h with rfl | h
    · omega
    · have := ih h; omega

theorem bulkI_len (l : List IdT) : l.length ≤ bulkI l := by
  induction l with
  | nil => simp
  | cons y t ih => simp only [bulkI, List.length_cons]; omega

theorem SE_cells {w : World} {v : Value} {l : List EnT} (h : SE w v l) : ∃ ao cap, v = .slice ao l.length cap ∧ l.length ≤ cap ∧ Hid (∀ k (hk : k < l.length), ∃ b off, ao = some ⟨b, off, none⟩ ∧ w.cell? ⟨b, off + k * 3, none⟩ = some (.int .i8 l[k].1) ∧ w.cell? ⟨b, off + k * 3 + 1, none⟩ = some (.string l[k].2.1) ∧ w.cell? ⟨b, off + k * 3 + 2, none⟩ = some (.string l[k].2.2)) := by
  obtain ⟨ao, cap, h1, h2, h3⟩ := h
  refine ⟨ao, cap, h1, h2, fun k hk => ?_⟩
  obtain ⟨b, off, e, h⟩ := h3 (by intro e; rw [e] at hk; simp at hk)
  exact ⟨b, off, e, h k _ (List.getElem?_eq_getElem hk)⟩

theorem SI_cells {w : World} {v : Value} {l : List IdT} (h : SI w v l) : ∃ ao cap, v = .slice ao l.length cap ∧ l.length ≤ cap ∧ Hid (∀ k (hk : k < l.length), ∃ b off, ao = some ⟨b, off, none⟩ ∧ w.cell? ⟨b, off + k * 2, none⟩ = some (.string l[k].1) ∧ w.cell? ⟨b, off + k * 2 + 1, none⟩ = some (.string l[k].2)) := by
  obtain ⟨ao, cap, h1, h2, h3⟩ := h
  refine ⟨ao, cap, h1, h2, fun k hk => ?_⟩
  obtain ⟨b, off, e, h⟩ := h3 (by intro e; rw [e] at hk; simp at hk)
  exact ⟨b, off, e, h k _ (List.getElem?_eq_getElem hk)⟩

set_option maxHeartbeats 2000000 in
theorem long6_any (v u : Value) (l : List EnT) (who : List IdT) (w : World) (hl : SE w v l) (hw : SI w u who) (hc1 : l.length ≤ 2 ^ 62) (hc2 : who.length ≤ 2 ^ 62) :
    Calls Tryz.prog 4 #[v, u] w fun e w' => ∃ r, e = .returned (.bool r) ∧ (r = false → bulkE l + bulkI who ≤ 1073741823) ∧ ∃ m, w' = w.drewN m := by
  obtain ⟨ao, cap, rfl, hlc, HC⟩ := SE_cells hl
  obtain ⟨bo, dap, rfl, hwc, HD⟩ := SI_cells hw
  clear hl hw
  go_enter Tryz.func4, Tryz.ntmps4
  go_wp2
  go_loopw [5, 6] (fun n i wr => ∃ k m : Nat, k ≤ l.length ∧ i = .int .i64 k ∧ n = .int .i64 (bulkE (l.take k)) ∧ bulkE (l.take k) ≤ 2147483646 ∧ wr = w.drewN m) (fun _ i _ => l.length - (intOf i).toNat)
  case atStart => exact ⟨0, 0, Nat.zero_le _, rfl, rfl, by simp [bulkE, bulkI], rfl⟩
  case round =>
    obtain ⟨k, m, hk, rfl, rfl, hbd, rfl⟩ := hrel
    by_cases hlt : k < l.length
    · have d0 : decide ((k : Int) < l.length) = true := by simp; omega
      by_cases hle : bulkE (l.take k) ≤ 1073741823
      · have d1 : decide ((bulkE (l.take k) : Int) ≤ 1073741823) = true := by simp only [decide_eq_true_eq]; omega
        obtain ⟨b, off, rfl, c0, c1, c2⟩ := HC.out k hlt
        have HN : Hid _ := bulkE_next hlt
        clear HC HD
        generalize l[k].2.1 = s1 at *
        generalize l[k].2.2 = s2 at *
        by_cases g1 : 536870911 < s1.size
        · have d2 : decide (536870911 < (s1.size : Int)) = true := by simp only [decide_eq_true_eq]; omega
          go_wp2
          go_ret
          exact ⟨true, rfl, (fun e => by simp at e), m, rfl⟩
        · have d2 : decide (536870911 < (s1.size : Int)) = false := by simp only [decide_eq_false_iff_not]; omega
          by_cases g2 : 536870911 < s2.size
          · have d3 : decide (536870911 < (s2.size : Int)) = true := by simp only [decide_eq_true_eq]; omega
            go_wp2
            go_ret
            exact ⟨true, rfl, (fun e => by simp at e), m, rfl⟩
          · have d3 : decide (536870911 < (s2.size : Int)) = false := by simp only [decide_eq_false_iff_not]; omega
            go_wp2
            go_quiet (fail)
            go_wp2
            go_roundw
            case rel => exact ⟨k + 1, _, by omega, by go_num, by rw [HN.out]; exact congrArg (Value.int .i64) (by omega), by rw [HN.out]; omega, by first | rfl | exact drewN_drewN _ _ _⟩
            case measure => simp [intOf]; omega
      · have d1 : decide ((bulkE (l.take k) : Int) ≤ 1073741823) = false := by simp only [decide_eq_false_iff_not]; omega
        have HN0 : Hid (bulkE (l.take k) ≤ 1073741823 → bulkE (l.take k) = bulkE l) := fun h => by omega
        clear HC
        generalize bulkE (l.take k) = n0 at *
        go_wp2
        go_loopw [5, 7] (fun n i wr => ∃ j m : Nat, j ≤ who.length ∧ i = .int .i64 j ∧ n = .int .i64 ((n0 + bulkI (who.take j) : Nat) : Int) ∧ n0 + bulkI (who.take j) ≤ 2147483646 ∧ wr = w.drewN m) (fun _ i _ => who.length - (intOf i).toNat)
        case atStart => exact ⟨0, m, Nat.zero_le _, rfl, rfl, by simpa [bulkI] using hbd, rfl⟩
        case round =>
          obtain ⟨j, m, hj, rfl, rfl, hbd, rfl⟩ := hrel
          have HT : Hid (n0 + bulkI (who.take j) ≤ 1073741823 → j = who.length → bulkE l + bulkI who ≤ 1073741823) := by
            intro a b
            rw [b, List.take_length] at a
            have := HN0.out (by omega)
            omega
          clear HN0
          by_cases hlt : j < who.length
          · have d0 : decide ((j : Int) < who.length) = true := by simp; omega
            obtain ⟨b, off, rfl, c1, c2⟩ := HD.out j hlt
            have HN : Hid _ := bulkI_next hlt
            clear HD HT
            generalize bulkI (who.take j) = q at *
            generalize who[j].1 = s1 at *
            generalize who[j].2 = s2 at *
            by_cases hle : n0 + q ≤ 1073741823
            · exact absurd hle (by omega)
            · have d1 : decide ((((n0 + q : Nat) : Int)) ≤ 1073741823) = false := by simp only [decide_eq_false_iff_not]; omega
              have d2 : decide (1073741823 < ((n0 + q : Nat) : Int)) = true := by simp only [decide_eq_true_eq]; omega
              clear HN c1 c2
              generalize n0 + q = N at *
              go_wp2
              go_ret
              exact ⟨_, rfl, (fun e => by first | (simp at e) | (rw [d2] at e; simp at e)), m, rfl⟩
          · have d0 : decide ((j : Int) < who.length) = false := by simp; omega
            clear HD
            have HT2 := fun h => HT.out h (by omega)
            generalize n0 + bulkI (who.take j) = N at *
            go_wp2
            go_ret
            exact ⟨_, rfl, (fun e => by simp at e; exact HT2 (by omega)), m, rfl⟩
    · have d0 : decide ((k : Int) < l.length) = false := by simp; omega
      have HN0 : Hid (bulkE (l.take k) ≤ 1073741823 → bulkE (l.take k) = bulkE l) := fun _ => by rw [show k = l.length by omega, List.take_length]
      clear HC
      generalize bulkE (l.take k) = n0 at *
      go_wp2
      go_loopw [5, 7] (fun n i wr => ∃ j m : Nat, j ≤ who.length ∧ i = .int .i64 j ∧ n = .int .i64 ((n0 + bulkI (who.take j) : Nat) : Int) ∧ n0 + bulkI (who.take j) ≤ 2147483646 ∧ wr = w.drewN m) (fun _ i _ => who.length - (intOf i).toNat)
      case atStart => exact ⟨0, m, Nat.zero_le _, rfl, rfl, by simpa [bulkI] using hbd, rfl⟩
      case round =>
        obtain ⟨j, m, hj, rfl, rfl, hbd, rfl⟩ := hrel
        have HT : Hid (n0 + bulkI (who.take j) ≤ 1073741823 → j = who.length → bulkE l + bulkI who ≤ 1073741823) := by
          intro a b
          rw [b, List.take_length] at a
          have := HN0.out (by omega)
          omega
        clear HN0
        by_cases hlt : j < who.length
        · have d0 : decide ((j : Int) < who.length) = true := by simp; omega
          obtain ⟨b, off, rfl, c1, c2⟩ := HD.out j hlt
          have HN : Hid _ := bulkI_next hlt
          clear HD HT
          generalize bulkI (who.take j) = q at *
          generalize who[j].1 = s1 at *
          generalize who[j].2 = s2 at *
          by_cases hle : n0 + q ≤ 1073741823
          · have d1 : decide ((((n0 + q : Nat) : Int)) ≤ 1073741823) = true := by simp only [decide_eq_true_eq]; omega
            generalize hN : n0 + q = N at *
            by_cases g1 : 536870911 < s1.size
            · have d2 : decide (536870911 < (s1.size : Int)) = true := by simp only [decide_eq_true_eq]; omega
              go_wp2
              go_ret
              exact ⟨true, rfl, (fun e => by simp at e), m, rfl⟩
            · have d2 : decide (536870911 < (s1.size : Int)) = false := by simp only [decide_eq_false_iff_not]; omega
              by_cases g2 : 536870911 < s2.size
              · have d3 : decide (536870911 < (s2.size : Int)) = true := by simp only [decide_eq_true_eq]; omega
                go_wp2
                go_ret
                exact ⟨true, rfl, (fun e => by simp at e), m, rfl⟩
              · have d3 : decide (536870911 < (s2.size : Int)) = false := by simp only [decide_eq_false_iff_not]; omega
                go_wp2
                go_quiet (fail)
                go_wp2
                go_roundw
                case rel => exact ⟨j + 1, _, by omega, by go_num, by rw [HN.out]; exact congrArg (Value.int .i64) (by omega), by rw [HN.out]; omega, by first | rfl | exact drewN_drewN _ _ _⟩
                case measure => simp [intOf]; omega
          · have d1 : decide ((((n0 + q : Nat) : Int)) ≤ 1073741823) = false := by simp only [decide_eq_false_iff_not]; omega
            have d2 : decide (1073741823 < ((n0 + q : Nat) : Int)) = true := by simp only [decide_eq_true_eq]; omega
            clear HN c1 c2
            generalize n0 + q = N at *
            go_wp2
            go_ret
            exact ⟨_, rfl, (fun e => by first | (simp at e) | (rw [d2] at e; simp at e)), m, rfl⟩
        · have d0 : decide ((j : Int) < who.length) = false := by simp; omega
          clear HD
          have HT2 := fun h => HT.out h (by omega)
          generalize n0 + bulkI (who.take j) = N at *
          go_wp2
          go_ret
          exact ⟨_, rfl, (fun e => by simp at e; exact HT2 (by omega)), m, rfl⟩

end Go.Proofs.YtgoiefhhbgollaaGreatDoor
