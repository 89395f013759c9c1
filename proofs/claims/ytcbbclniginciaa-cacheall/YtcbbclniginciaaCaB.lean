/- A ring of numbers works; texts that came in; the walk of CacheLast. -/
import Derived.Test.YtcbbclniginciaaCaS
import Derived.Deep.Strs
namespace Go.Proofs.Ytcbbclniginciaa
open Go.RowKit
set_option maxRecDepth 8000

set_option maxHeartbeats 400000 in
theorem caWorks_any (w : World) : Calls Try.prog 6 #[] w fun e w' => e = .returned (.bool true) ∧ Below w.heap.size w w' := by
  have HN : Hid (Calls Try.prog 7 #[.int .i64 2] w fun e w' => e = .returned (.tuple #[.pointer (some ⟨w.heap.size, 0, none⟩), .int .i64 0]) ∧ Hid (IsRg 72 w' w.heap.size 2 [] ∧ Below w.heap.size w w')) := newI_yes 2 w (by omega)
  generalize hp : w.heap.size = p at HN
  have HP : Hid (p = w.heap.size) := hp.symm
  go_enter Try.func6, Try.ntmps6
  go_wp2_with fail
  go_at_call 7
  refine (HN.out).mono ?_
  rintro e w1 ⟨rfl, H1⟩
  clear HN
  go_wp2_with fail
  go_at_call 8
  refine (putI_any H1.out.1 5).mono ?_
  rintro e w2 ⟨rfl, h2, k2⟩
  have H2 : Hid (IsRg 72 w2 p 2 [.int .i64 5] ∧ Below p w w2) := ⟨h2, H1.out.2.trans (k2.below (by have := H1.out.1.lt; omega) (fun k e => by omega))⟩
  clear h2 k2 H1
  go_wp2_with fail
  go_at_call 8
  refine (putI_any H2.out.1 6).mono ?_
  rintro e w3 ⟨rfl, h3, k3⟩
  have H3 : Hid (IsRg 72 w3 p 2 [.int .i64 5, .int .i64 6] ∧ Below p w w3) := ⟨h3, H2.out.2.trans (k3.below (by have := H2.out.1.lt; omega) (fun k e => by omega))⟩
  clear h3 k3 H2
  go_wp2_with fail
  go_at_call 8
  refine (putI_any H3.out.1 7).mono ?_
  rintro e w4 ⟨rfl, h4, k4⟩
  have H4 : Hid (IsRg 72 w4 p 2 [.int .i64 6, .int .i64 7] ∧ Below p w w4) := ⟨h4, H3.out.2.trans (k4.below (by have := H3.out.1.lt; omega) (fun k e => by omega))⟩
  clear h4 k4 H3
  go_wp2_with fail
  go_at_call 19
  refine (atI_yes H4.out.1 0 6 rfl).mono ?_
  rintro e w5 ⟨rfl, n5, hw5⟩
  have H5 : Hid (IsRg 72 w5 p 2 [.int .i64 6, .int .i64 7] ∧ Below p w w5) := by
    subst hw5
    exact ⟨IsRg.of_block H4.out.1 rfl, below_drewN H4.out.2 _⟩
  clear hw5 H4
  go_wp2_with fail
  go_at_call 11
  refine (lenI_any H5.out.1).mono ?_
  rintro e w6 ⟨rfl, rfl⟩
  go_wp2
  go_ret
  exact ⟨rfl, H5.out.2⟩

/-- The slice value leads to these texts. -/
def SeesT (w : World) (v : Value) (ss : List ByteArray) : Prop :=
  ∃ (ao : Option Addr) (cap : Nat), v = .slice ao ss.length cap ∧ ss.length ≤ cap ∧ cap ≤ maxLen ∧ (ss = [] ∨ ∃ b off, ao = some ⟨b, off, none⟩ ∧ ∀ (i : Nat) (h : i < ss.length), w.cell? ⟨b, off + i, none⟩ = some (.string ss[i]))

theorem take_snoc {α : Type} (l : List α) (k : Nat) (hk : k < l.length) : l.take (k + 1) = l.take k ++ [l[k]] := by
  rw [List.take_add_one, List.getElem?_eq_getElem hk]; rfl

/-- The texts put so far, as the ring has them. -/
theorem rows_next (n : Nat) (l : List ByteArray) (k : Nat) (hk : k < l.length) : lastN n (lastN n ((l.take k).map Value.string) ++ [.string l[k]]) = lastN n ((l.take (k + 1)).map Value.string) := by
  rw [lastN_snoc, take_snoc l k hk, List.map_append]
  rfl

/-- A text of what was put: from the last n of the first i + 1. -/
theorem row_at_last (n : Nat) (l : List ByteArray) (i k : Nat) (hi : i < l.length) (hk : k < min (i + 1) n) :
    ∃ (h : i + 1 - min (i + 1) n + k < l.length), (lastN n ((l.take (i + 1)).map Value.string))[k]? = some (.string l[i + 1 - min (i + 1) n + k]) := by
  have h : i + 1 - min (i + 1) n + k < l.length := by omega
  refine ⟨h, ?_⟩
  rw [lastN_getElem?]
  simp only [List.length_map, List.length_take, List.getElem?_map]
  rw [show min (i + 1) l.length - n + k = i + 1 - min (i + 1) n + k by omega, List.getElem?_take, if_pos (by omega), List.getElem?_eq_getElem h]
  rfl

set_option maxHeartbeats 2000000 in
theorem last_walk (most : Int) (va : Value) (l : List ByteArray) (vb : Value) (more : List ByteArray) (w : World) (ha : SeesT w va l) (hl : l.length ≤ 140737488355328) (hb : SeesT w vb more) (hl2 : more.length ≤ 140737488355328) (_hm : -9223372036854775808 ≤ most ∧ most ≤ 9223372036854775807) :
    Calls Try.prog 4 #[.int .i64 most, va, vb] w fun e w' => e = .returned (.bool true) ∧ Below w.heap.size w w' := by
  obtain ⟨aa, ca, rfl, hca, hca2, h3a⟩ := ha
  obtain ⟨ab, cb, rfl, hcb, hcb2, h3b⟩ := hb
  unfold maxLen at hca2 hcb2
  have H3a : Hid _ := h3a
  have H3b : Hid _ := h3b
  clear h3a h3b
  go_enter Try.func4, Try.ntmps4
  go_wp2_with fail
  go_at_call 6
  refine (caWorks_any _).mono ?_
  rintro e w1 ⟨rfl, hb1⟩
  have H1 : Hid (Below w.heap.size w w1) := hb1
  clear hb1
  by_cases hlong : 4194304 < (l.length : Int) + more.length
  · go_wp2_with fail
    go_ret
    exact ⟨rfl, H1.out⟩
  · by_cases hno : most < 0 ∨ 64 < most
    · go_wp2_with fail
      go_at_call 13
      refine (newS_no most w1 hno).mono ?_
      rintro e w2 ⟨rfl, rfl⟩
      go_wp2_with fail
      · go_ret
        exact ⟨by congr 2; simp; omega, H1.out⟩
      · go_ret
        exact ⟨rfl, H1.out⟩
    · obtain ⟨n, rfl⟩ : ∃ n : Nat, most = n := ⟨most.toNat, by omega⟩
      have hn : n ≤ 64 := by omega
      go_wp2_with fail
      go_at_call 13
      refine (newS_yes n w1 hn).mono ?_
      rintro e w2 ⟨rfl, hr2, hb2⟩
      generalize hp : w1.heap.size = p at *
      have hpw : w.heap.size ≤ p := by rw [← hp]; exact H1.out.size
      have H2 : Hid (IsRg 76 w2 p n [] ∧ Below w.heap.size w w2) := ⟨hr2, H1.out.trans (hb2.mono hpw)⟩
      clear hr2 hb2 hp H1 hno
      go_wp2_with fail
      go_loopw [10] (fun vi wr => ∃ k : Nat, k ≤ l.length ∧ vi = .int .i64 k ∧ Hid (IsRg 76 wr p n (lastN n ((l.take k).map Value.string)) ∧ Below w.heap.size w wr)) (fun vi _ => l.length - (intOf vi).toNat)
      case atStart => exact ⟨0, Nat.zero_le _, rfl, by simpa [lastN] using H2.out.1, H2.out.2⟩
      case round =>
        clear H2
        obtain ⟨k, hk, rfl, HR⟩ := hrel
        by_cases hlt : k < l.length
        · rcases H3a.out with h3 | ⟨b, off, rfl, h3⟩
          · subst h3; simp at hlt
          · have hc := cell_later (h3 k hlt) HR.out.2 (Nat.le_refl _)
            clear h3
            go_wp2_with fail
            go_at_call 14
            refine (putS_any HR.out.1 l[k]).mono ?_
            rintro e w3 ⟨rfl, hr3, hk3⟩
            have H3 : Hid (IsRg 76 w3 p n (lastN n ((l.take (k + 1)).map Value.string)) ∧ Below w.heap.size w w3) := ⟨by rw [rows_next n l k hlt] at hr3; exact hr3, HR.out.2.trans (hk3.below HR.out.2.size (fun j e => by omega))⟩
            clear hr3 hk3 HR hc
            go_wp2_with fail
            go_roundw
            case rel => exact ⟨k + 1, by omega, by go_num, H3⟩
            case measure => simp [intOf]; omega
        · obtain rfl : k = l.length := by omega
          clear H3a
          go_wp2_with fail
          go_at_call 15
          refine (clearS_any HR.out.1).mono ?_
          rintro e w3 ⟨rfl, hr3, hk3⟩
          have H3 : Hid (IsRg 76 w3 p n [] ∧ Below w.heap.size w w3) := ⟨hr3, HR.out.2.trans (hk3.below HR.out.2.size (fun j e => by omega))⟩
          clear hr3 hk3 HR
          go_wp2_with fail
          go_at_call 16
          refine (lenS_any H3.out.1).mono ?_
          rintro e w4 ⟨rfl, rfl⟩
          go_wp2_with fail
          go_loopw [12] (fun vi wr => ∃ k : Nat, k ≤ more.length ∧ vi = .int .i64 k ∧ Hid (IsRg 76 wr p n (lastN n ((more.take k).map Value.string)) ∧ Below w.heap.size w wr)) (fun vi _ => more.length - (intOf vi).toNat)
          case atStart => exact ⟨0, Nat.zero_le _, rfl, by simpa [lastN] using H3.out.1, H3.out.2⟩
          case round =>
            clear H3
            obtain ⟨k, hk, rfl, HR⟩ := hrel
            by_cases hlt : k < more.length
            · rcases H3b.out with h3 | ⟨b, off, rfl, h3⟩
              · subst h3; simp at hlt
              · have hc := cell_later (h3 k hlt) HR.out.2 (Nat.le_refl _)
                have HC : Hid _ := h3
                clear h3
                go_wp2_with fail
                go_at_call 14
                refine (putS_any HR.out.1 more[k]).mono ?_
                rintro e w3 ⟨rfl, hr3, hk3⟩
                have H3 : Hid (IsRg 76 w3 p n (lastN n ((more.take (k + 1)).map Value.string)) ∧ Below w.heap.size w w3) := ⟨by rw [rows_next n more k hlt] at hr3; exact hr3, HR.out.2.trans (hk3.below HR.out.2.size (fun j e => by omega))⟩
                have HL : Hid ((lastN n ((more.take (k + 1)).map Value.string)).length = min (k + 1) n) := by
                  show _ = _
                  rw [lastN_length, List.length_map, List.length_take]; omega
                clear hr3 hk3 HR hc
                obtain ⟨q, hq⟩ : ∃ q, q = min (k + 1) n := ⟨_, rfl⟩
                have HLen : Hid (Calls Try.prog 16 #[.pointer (some ⟨p, 0, none⟩)] w3 fun e w' => e = .returned (.int .i64 q) ∧ w' = w3) := by
                  have := lenS_any H3.out.1
                  rw [HL.out, ← hq] at this
                  exact this
                by_cases hmore : n < k + 1
                · have hq' : q = n := by omega
                  subst hq'
                  clear hq
                  have H4 : Hid (∀ j, j < q → ∃ (h : k + 1 - q + j < more.length), (lastN q ((more.take (k + 1)).map Value.string))[j]? = some (.string more[k + 1 - q + j])) := fun j hj => by
                    have := row_at_last q more k j hlt (by omega)
                    simpa only [show min (k + 1) q = q by omega] using this
                  go_wp2_with fail
                  go_at_call 16
                  refine (HLen.out).mono ?_
                  rintro e w4 ⟨rfl, rfl⟩
                  clear HLen HL
                  go_wp2_with fail
                  go_loopw [14] (fun vi wr => ∃ j : Nat, j ≤ q ∧ vi = .int .i64 j ∧ Hid (IsRg 76 wr p q (lastN q ((more.take (k + 1)).map Value.string)) ∧ Below w.heap.size w wr)) (fun vi _ => q - (intOf vi).toNat)
                  case atStart => exact ⟨0, Nat.zero_le _, rfl, H3⟩
                  case round =>
                    clear H3
                    obtain ⟨j, hj, rfl, HR⟩ := hrel
                    by_cases hjl : j < q
                    · obtain ⟨hix, hrow⟩ := H4.out j hjl
                      have hx : k + 1 - q + j < more.length := hix
                      have hcb' : more.length ≤ cb := hcb
                      go_wp2_with fail
                      go_at_call 17
                      refine (atS_yes HR.out.1 j _ hrow).mono ?_
                      rintro e w5 ⟨rfl, n5, hw5⟩
                      have H5 : Hid (IsRg 76 w5 p q (lastN q ((more.take (k + 1)).map Value.string)) ∧ Below w.heap.size w w5) := by
                        subst hw5
                        exact ⟨IsRg.of_block HR.out.1 rfl, below_drewN HR.out.2 _⟩
                      have hc := cell_later (HC.out _ hix) H5.out.2 (Nat.le_refl _)
                      clear hw5 HR hrow H4
                      have e1 : (k : Int) + 1 - ((q : Int)) + (j : Int) = ((k + 1 - q + j : Nat) : Int) := by omega
                      go_wp2_with fail
                      go_roundw
                      case rel => exact ⟨j + 1, by omega, by go_num, H5⟩
                      case measure => simp [intOf]; omega
                    · obtain rfl : j = q := by omega
                      go_wp2_with fail
                      go_roundw
                      case rel => exact ⟨k + 1, by omega, by go_num, HR⟩
                      case measure => simp [intOf]; omega
                · have hq' : q = k + 1 := by omega
                  subst hq'
                  clear hq
                  have H4 : Hid (∀ j, j < (k + 1) → ∃ (h : k + 1 - (k + 1) + j < more.length), (lastN n ((more.take (k + 1)).map Value.string))[j]? = some (.string more[k + 1 - (k + 1) + j])) := fun j hj => by
                    have := row_at_last n more k j hlt (by omega)
                    simpa only [show min (k + 1) n = k + 1 by omega] using this
                  go_wp2_with fail
                  go_at_call 16
                  refine (HLen.out).mono ?_
                  rintro e w4 ⟨rfl, rfl⟩
                  clear HLen HL
                  go_wp2_with fail
                  go_loopw [14] (fun vi wr => ∃ j : Nat, j ≤ (k + 1) ∧ vi = .int .i64 j ∧ Hid (IsRg 76 wr p n (lastN n ((more.take (k + 1)).map Value.string)) ∧ Below w.heap.size w wr)) (fun vi _ => (k + 1) - (intOf vi).toNat)
                  case atStart => exact ⟨0, Nat.zero_le _, rfl, H3⟩
                  case round =>
                    clear H3
                    obtain ⟨j, hj, rfl, HR⟩ := hrel
                    by_cases hjl : j < (k + 1)
                    · obtain ⟨hix, hrow⟩ := H4.out j hjl
                      have hx : k + 1 - (k + 1) + j < more.length := hix
                      have hcb' : more.length ≤ cb := hcb
                      go_wp2_with fail
                      go_at_call 17
                      refine (atS_yes HR.out.1 j _ hrow).mono ?_
                      rintro e w5 ⟨rfl, n5, hw5⟩
                      have H5 : Hid (IsRg 76 w5 p n (lastN n ((more.take (k + 1)).map Value.string)) ∧ Below w.heap.size w w5) := by
                        subst hw5
                        exact ⟨IsRg.of_block HR.out.1 rfl, below_drewN HR.out.2 _⟩
                      have hc := cell_later (HC.out _ hix) H5.out.2 (Nat.le_refl _)
                      simp only [Nat.sub_self, Nat.zero_add] at hc hx
                      clear hw5 HR hrow H4
                      have e1 : (k : Int) + 1 - ((k : Int) + 1) + (j : Int) = ((k + 1 - (k + 1) + j : Nat) : Int) := by omega
                      go_wp2_with fail
                      go_roundw
                      case rel => exact ⟨j + 1, by omega, by go_num, H5⟩
                      case measure => simp [intOf]; omega
                    · obtain rfl : j = (k + 1) := by omega
                      go_wp2_with fail
                      go_roundw
                      case rel => exact ⟨k + 1, by omega, by go_num, HR⟩
                      case measure => simp [intOf]; omega
            · obtain rfl : k = more.length := by omega
              clear H3b
              go_wp2_with fail
              go_ret
              exact ⟨rfl, HR.out.2⟩

end Go.Proofs.Ytcbbclniginciaa
