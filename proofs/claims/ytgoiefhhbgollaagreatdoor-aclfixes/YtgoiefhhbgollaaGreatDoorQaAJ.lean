/- What number of the document's layer 6 answers: the number that a text bears at a place. -/
import Derived.Test.YtgoiefhhbgollaaGreatDoorPaPJ
import Derived.Test.YtgoiefhhbgollaaGreatDoorMemJ
import Derived.Test.YtgoiefhhbgollaaGreatDoorChecked
import Derived.Lib.OthersKept
import Derived.BigQuiet
import Derived.Deep.QuietTactic
namespace Go.Proofs.YtgoiefhhbgollaaGreatDoor
open Go.RowKit
set_option maxRecDepth 8000

theorem byteAt (s : ByteArray) (i : Nat) (h : i < s.size) : s[i] = s.data.toList.getD i 0 := by
  rw [List.getD_eq_getElem?_getD, List.getElem?_eq_getElem (by rw [← size_list]; exact h)]
  rfl

/-- A digit. -/
def isD (b : UInt8) : Bool := decide (48 ≤ b.toNat) && decide (b.toNat ≤ 57)

/-- The digits that a text begins with, so many at most. -/
def dgs : Nat → Bs → Bs
  | 0, _ => []
  | _ + 1, [] => []
  | k + 1, b :: r => if isD b then b :: dgs k r else []

/-- Their number. -/
def valD (l : Bs) : Nat := l.foldl (fun n b => 10 * n + (b.toNat - 48)) 0

/-- Four digits at most: a number up to 255 without a needless 0; how many digits it has. -/
def numR (l : Bs) : Option (Nat × Nat) :=
  if dgs 4 l = [] ∨ 255 < valD (dgs 4 l) ∨ (1 < (dgs 4 l).length ∧ l.getD 0 0 = 48) then none else some (valD (dgs 4 l), (dgs 4 l).length)

theorem dgs_drop {k : Nat} {l : Bs} (h : ∀ b r, l = b :: r → isD b = false) : dgs k l = [] := by
  cases k with
  | zero => cases l <;> rfl
  | succ k =>
    cases l with
    | nil => rfl
    | cons b r => simp [dgs, h b r rfl]

theorem valD_snoc (d : Bs) (b : UInt8) : valD (d ++ [b]) = 10 * valD d + (b.toNat - 48) := by
  unfold valD
  rw [List.foldl_append]
  rfl

theorem drop_at (l : Bs) (i : Nat) (h : i < l.length) : l.drop i = l.getD i 0 :: l.drop (i + 1) := by
  rw [List.drop_eq_getElem_cons h, List.getD_eq_getElem?_getD, List.getElem?_eq_getElem h]
  rfl

/-- How far the loop has come: d is what it has taken. -/
structure Dg (l : Bs) (at' k n : Nat) (d : Bs) : Prop where
  len : d.length = k
  val : valD d = n
  rest : dgs 4 (l.drop at') = d ++ dgs (4 - k) (l.drop (at' + k))
  lim : (k = 0 ∧ n < 1) ∨ (k = 1 ∧ n < 10) ∨ (k = 2 ∧ n < 100) ∨ (k = 3 ∧ n < 1000) ∨ (k = 4 ∧ n < 10000)

theorem Dg.start (l : Bs) (at' : Nat) : Dg l at' 0 0 [] := ⟨rfl, rfl, by simp, by omega⟩

theorem Dg.step {l : Bs} {at' k n : Nat} {d : Bs} (h : Dg l at' k n d) (hk : k < 4) (hl : at' + k < l.length) (hd : isD (l.getD (at' + k) 0) = true) : Dg l at' (k + 1) (10 * n + ((l.getD (at' + k) 0).toNat - 48)) (d ++ [l.getD (at' + k) 0]) := by
  refine ⟨by simp [h.len], by rw [valD_snoc, h.val], ?_, ?_⟩
  · rw [h.rest, drop_at l (at' + k) hl, show 4 - k = (4 - (k + 1)) + 1 by omega, dgs, if_pos hd]
    simp [Nat.add_assoc]
  · have := h.lim
    unfold isD at hd
    simp only [Bool.and_eq_true, decide_eq_true_eq] at hd
    omega

theorem Dg.stop {l : Bs} {at' k n : Nat} {d : Bs} (h : Dg l at' k n d) (hs : k = 4 ∨ l.length ≤ at' + k ∨ isD (l.getD (at' + k) 0) = false) : dgs 4 (l.drop at') = d := by
  rw [h.rest]
  have : dgs (4 - k) (l.drop (at' + k)) = [] := by
    rcases hs with rfl | hs | hs
    · cases l.drop (at' + 4) <;> rfl
    · rw [List.drop_of_length_le hs]; cases 4 - k <;> rfl
    · by_cases hl : at' + k < l.length
      · rw [drop_at l _ hl]
        exact dgs_drop (fun b r e => by rw [← (List.cons.inj e).1]; exact hs)
      · rw [List.drop_of_length_le (by omega)]; cases 4 - k <;> rfl
  rw [this, List.append_nil]

/-- What number answers. -/
def numV (l : Bs) (at' : Nat) : Value := match numR (l.drop at') with
  | none => .tuple #[.int .i64 0, .int .i64 (at' : Int), .bool false]
  | some (n, k) => .tuple #[.int .i64 (n : Int), .int .i64 ((at' + k : Nat) : Int), .bool true]

/-- At the loop's end. -/
theorem Dg.ends {l : Bs} {at' k n : Nat} {d : Bs} (h : Dg l at' k n d) (hs : dgs 4 (l.drop at') = d) : numV l at' = if k = 0 ∨ 255 < n ∨ (1 < k ∧ l.getD at' 0 = 48) then .tuple #[.int .i64 0, .int .i64 (at' : Int), .bool false] else .tuple #[.int .i64 (n : Int), .int .i64 ((at' + k : Nat) : Int), .bool true] := by
  have e0 : (l.drop at').getD 0 0 = l.getD at' 0 := by
    rw [List.getD_eq_getElem?_getD, List.getElem?_drop, Nat.add_zero, ← List.getD_eq_getElem?_getD]
  have e1 : (d = [] ∨ 255 < n ∨ (1 < k ∧ l.getD at' 0 = 48)) ↔ (k = 0 ∨ 255 < n ∨ (1 < k ∧ l.getD at' 0 = 48)) := by
    rw [← List.length_eq_zero_iff, h.len]
  unfold numV numR
  rw [hs, h.val, h.len, e0]
  by_cases hc : d = [] ∨ 255 < n ∨ (1 < k ∧ l.getD at' 0 = 48)
  · rw [if_pos hc, if_pos (e1.1 hc)]
  · rw [if_neg hc, if_neg (fun h => hc (e1.2 h))]

set_option maxHeartbeats 1000000 in
theorem number_any (s : ByteArray) (p : Nat) (hp : p ≤ s.size) (hl : s.size ≤ 4294967296) (w : World) :
    Calls Tryz.prog 100 #[.string s, .int .i64 (p : Int)] w fun e w' => e = .returned (numV s.data.toList p) ∧ w' = w := by
  have HS : Hid (s.size = s.data.toList.length) := size_list s
  obtain ⟨val, hval⟩ : ∃ val, val = numV s.data.toList p := ⟨_, rfl⟩
  rw [← hval]
  have HVal : Hid (val = numV s.data.toList p) := hval
  clear hval
  go_enter Tryz.func100, Tryz.ntmps100
  go_wp2
  go_loop [7, 8] (fun vn vi => ∃ (k n : Nat) (d : Bs), p + k ≤ s.size ∧ k ≤ 4 ∧ n ≤ 9999 ∧ vn = .int .i64 (n : Int) ∧ vi = .int .i64 ((p + k : Nat) : Int) ∧ Hid (Dg s.data.toList p k n d)) (fun _ vi => p + 4 - (intOf vi).toNat)
  case atStart => exact ⟨0, 0, [], hp, by omega, by omega, rfl, rfl, Dg.start _ _⟩
  case round =>
    obtain ⟨k, n, d, hk, hk4, hn, rfl, rfl, HG⟩ := hrel
    --ROUND
    by_cases hlt : p + k < s.size
    · have hby := byteAt s (p + k) hlt
      by_cases h48 : 48 ≤ s[p + k].toNat
      · by_cases h57 : s[p + k].toNat ≤ 57
        · have hD : isD (s.data.toList.getD (p + k) 0) = true := by rw [← hby]; unfold isD; simp [h48, h57]
          by_cases hk3 : k < 4
          · have HN : Hid (Dg s.data.toList p (k + 1) (10 * n + (s[p + k].toNat - 48)) (d ++ [s[p + k]])) := by
              have := HG.out.step hk3 (by rw [← HS.out]; exact hlt) hD
              rw [← hby] at this
              exact this
            have hn9 : n ≤ 999 := by have := HG.out.lim; omega
            have hsub : (((s[p + k].toNat : Int) - 48) % 256) = ((s[p + k].toNat - 48 : Nat) : Int) := by omega
            clear hby hD
            go_wp2
            refine ⟨⟨k + 1, 10 * n + (s[p + k].toNat - 48), _, by omega, by omega, by omega, by congr 1; omega, by congr 1, HN⟩, ?_⟩
            simp [intOf]; omega
          · clear hby hD
            have HE := HG.out.ends (HG.out.stop (.inl (by omega)))
            by_cases k0 : k = 0
            · have HX : Hid (val = .tuple #[.int .i64 0, .int .i64 (p : Int), .bool false]) := by show _ = _; rw [HVal.out, HE, if_pos (.inl k0)]
              have k00 : k ≤ 0 := by omega
              have hne : (((p : Int) + (k : Int)) == (p : Int)) = true := by rw [beq_iff_eq]; omega
              clear k0
              clear HE
              go_wp2
              all_goals (go_ret3; exact ⟨by rw [HX.out]; rfl, rfl⟩)
            · have hne : (((p : Int) + (k : Int)) == (p : Int)) = false := by rw [beq_eq_false_iff_ne]; omega
              by_cases n5 : 255 < n
              · have HX : Hid (val = .tuple #[.int .i64 0, .int .i64 (p : Int), .bool false]) := by show _ = _; rw [HVal.out, HE, if_pos (.inr (.inl n5))]
                clear HE
                go_wp2
                all_goals (go_ret3; exact ⟨by rw [HX.out]; rfl, rfl⟩)
              · by_cases k1 : 1 < k
                · have hps : p < s.size := by omega
                  have hb0 := byteAt s p hps
                  by_cases z : s.data.toList.getD p 0 = 48
                  · have HX : Hid (val = .tuple #[.int .i64 0, .int .i64 (p : Int), .bool false]) := by show _ = _; rw [HVal.out, HE, if_pos (.inr (.inr ⟨k1, z⟩))]
                    have hz : ((s[p].toNat : Int) == 48) = true := by rw [hb0, z]; rfl
                    clear HE hb0 z
                    go_wp2
                    all_goals (go_ret3; exact ⟨by rw [HX.out]; rfl, rfl⟩)
                  · have HX : Hid (val = .tuple #[.int .i64 (n : Int), .int .i64 ((p + k : Nat) : Int), .bool true]) := by show _ = _; rw [HVal.out, HE, if_neg (by rintro (h | h | h); exact k0 h; exact n5 h; exact z h.2)]
                    have hz : ((s[p].toNat : Int) == 48) = false := by
                      rw [beq_eq_false_iff_ne]
                      intro e
                      exact z (by rw [← hb0]; exact UInt8.toNat_inj.1 (by show s[p].toNat = 48; omega))
                    clear HE hb0 z
                    go_wp2
                    all_goals (go_ret3; exact ⟨by rw [HX.out]; rfl, rfl⟩)
                · have HX : Hid (val = .tuple #[.int .i64 (n : Int), .int .i64 ((p + k : Nat) : Int), .bool true]) := by show _ = _; rw [HVal.out, HE, if_neg (by rintro (h | h | h); exact k0 h; exact n5 h; exact k1 h.1)]
                  clear HE
                  go_wp2
                  all_goals (go_ret3; exact ⟨by rw [HX.out]; rfl, rfl⟩)
        · have HD : Hid (isD (s.data.toList.getD (p + k) 0) = false) := by show _ = _; rw [← hby]; unfold isD; simp [h48, h57]
          clear hby
          have HE := HG.out.ends (HG.out.stop (.inr (.inr HD.out)))
          by_cases k0 : k = 0
          · have HX : Hid (val = .tuple #[.int .i64 0, .int .i64 (p : Int), .bool false]) := by show _ = _; rw [HVal.out, HE, if_pos (.inl k0)]
            have k00 : k ≤ 0 := by omega
            have hne : (((p : Int) + (k : Int)) == (p : Int)) = true := by rw [beq_iff_eq]; omega
            clear k0
            clear HE
            go_wp2
            all_goals (go_ret3; exact ⟨by rw [HX.out]; rfl, rfl⟩)
          · have hne : (((p : Int) + (k : Int)) == (p : Int)) = false := by rw [beq_eq_false_iff_ne]; omega
            by_cases n5 : 255 < n
            · have HX : Hid (val = .tuple #[.int .i64 0, .int .i64 (p : Int), .bool false]) := by show _ = _; rw [HVal.out, HE, if_pos (.inr (.inl n5))]
              clear HE
              go_wp2
              all_goals (go_ret3; exact ⟨by rw [HX.out]; rfl, rfl⟩)
            · by_cases k1 : 1 < k
              · have hps : p < s.size := by omega
                have hb0 := byteAt s p hps
                by_cases z : s.data.toList.getD p 0 = 48
                · have HX : Hid (val = .tuple #[.int .i64 0, .int .i64 (p : Int), .bool false]) := by show _ = _; rw [HVal.out, HE, if_pos (.inr (.inr ⟨k1, z⟩))]
                  have hz : ((s[p].toNat : Int) == 48) = true := by rw [hb0, z]; rfl
                  clear HE hb0 z
                  go_wp2
                  all_goals (go_ret3; exact ⟨by rw [HX.out]; rfl, rfl⟩)
                · have HX : Hid (val = .tuple #[.int .i64 (n : Int), .int .i64 ((p + k : Nat) : Int), .bool true]) := by show _ = _; rw [HVal.out, HE, if_neg (by rintro (h | h | h); exact k0 h; exact n5 h; exact z h.2)]
                  have hz : ((s[p].toNat : Int) == 48) = false := by
                    rw [beq_eq_false_iff_ne]
                    intro e
                    exact z (by rw [← hb0]; exact UInt8.toNat_inj.1 (by show s[p].toNat = 48; omega))
                  clear HE hb0 z
                  go_wp2
                  all_goals (go_ret3; exact ⟨by rw [HX.out]; rfl, rfl⟩)
              · have HX : Hid (val = .tuple #[.int .i64 (n : Int), .int .i64 ((p + k : Nat) : Int), .bool true]) := by show _ = _; rw [HVal.out, HE, if_neg (by rintro (h | h | h); exact k0 h; exact n5 h; exact k1 h.1)]
                clear HE
                go_wp2
                all_goals (go_ret3; exact ⟨by rw [HX.out]; rfl, rfl⟩)
      · have HD : Hid (isD (s.data.toList.getD (p + k) 0) = false) := by show _ = _; rw [← hby]; unfold isD; simp [h48]
        clear hby
        have HE := HG.out.ends (HG.out.stop (.inr (.inr HD.out)))
        by_cases k0 : k = 0
        · have HX : Hid (val = .tuple #[.int .i64 0, .int .i64 (p : Int), .bool false]) := by show _ = _; rw [HVal.out, HE, if_pos (.inl k0)]
          have k00 : k ≤ 0 := by omega
          have hne : (((p : Int) + (k : Int)) == (p : Int)) = true := by rw [beq_iff_eq]; omega
          clear k0
          clear HE
          go_wp2
          all_goals (go_ret3; exact ⟨by rw [HX.out]; rfl, rfl⟩)
        · have hne : (((p : Int) + (k : Int)) == (p : Int)) = false := by rw [beq_eq_false_iff_ne]; omega
          by_cases n5 : 255 < n
          · have HX : Hid (val = .tuple #[.int .i64 0, .int .i64 (p : Int), .bool false]) := by show _ = _; rw [HVal.out, HE, if_pos (.inr (.inl n5))]
            clear HE
            go_wp2
            all_goals (go_ret3; exact ⟨by rw [HX.out]; rfl, rfl⟩)
          · by_cases k1 : 1 < k
            · have hps : p < s.size := by omega
              have hb0 := byteAt s p hps
              by_cases z : s.data.toList.getD p 0 = 48
              · have HX : Hid (val = .tuple #[.int .i64 0, .int .i64 (p : Int), .bool false]) := by show _ = _; rw [HVal.out, HE, if_pos (.inr (.inr ⟨k1, z⟩))]
                have hz : ((s[p].toNat : Int) == 48) = true := by rw [hb0, z]; rfl
                clear HE hb0 z
                go_wp2
                all_goals (go_ret3; exact ⟨by rw [HX.out]; rfl, rfl⟩)
              · have HX : Hid (val = .tuple #[.int .i64 (n : Int), .int .i64 ((p + k : Nat) : Int), .bool true]) := by show _ = _; rw [HVal.out, HE, if_neg (by rintro (h | h | h); exact k0 h; exact n5 h; exact z h.2)]
                have hz : ((s[p].toNat : Int) == 48) = false := by
                  rw [beq_eq_false_iff_ne]
                  intro e
                  exact z (by rw [← hb0]; exact UInt8.toNat_inj.1 (by show s[p].toNat = 48; omega))
                clear HE hb0 z
                go_wp2
                all_goals (go_ret3; exact ⟨by rw [HX.out]; rfl, rfl⟩)
            · have HX : Hid (val = .tuple #[.int .i64 (n : Int), .int .i64 ((p + k : Nat) : Int), .bool true]) := by show _ = _; rw [HVal.out, HE, if_neg (by rintro (h | h | h); exact k0 h; exact n5 h; exact k1 h.1)]
              clear HE
              go_wp2
              all_goals (go_ret3; exact ⟨by rw [HX.out]; rfl, rfl⟩)
    · have HL : Hid (s.data.toList.length ≤ p + k) := by show _ ≤ _; rw [← HS.out]; omega
      have HE := HG.out.ends (HG.out.stop (.inr (.inl HL.out)))
      by_cases k0 : k = 0
      · have HX : Hid (val = .tuple #[.int .i64 0, .int .i64 (p : Int), .bool false]) := by show _ = _; rw [HVal.out, HE, if_pos (.inl k0)]
        have k00 : k ≤ 0 := by omega
        have hne : (((p : Int) + (k : Int)) == (p : Int)) = true := by rw [beq_iff_eq]; omega
        clear k0
        clear HE
        go_wp2
        all_goals (go_ret3; exact ⟨by rw [HX.out]; rfl, rfl⟩)
      · have hne : (((p : Int) + (k : Int)) == (p : Int)) = false := by rw [beq_eq_false_iff_ne]; omega
        by_cases n5 : 255 < n
        · have HX : Hid (val = .tuple #[.int .i64 0, .int .i64 (p : Int), .bool false]) := by show _ = _; rw [HVal.out, HE, if_pos (.inr (.inl n5))]
          clear HE
          go_wp2
          all_goals (go_ret3; exact ⟨by rw [HX.out]; rfl, rfl⟩)
        · by_cases k1 : 1 < k
          · have hps : p < s.size := by omega
            have hb0 := byteAt s p hps
            by_cases z : s.data.toList.getD p 0 = 48
            · have HX : Hid (val = .tuple #[.int .i64 0, .int .i64 (p : Int), .bool false]) := by show _ = _; rw [HVal.out, HE, if_pos (.inr (.inr ⟨k1, z⟩))]
              have hz : ((s[p].toNat : Int) == 48) = true := by rw [hb0, z]; rfl
              clear HE hb0 z
              go_wp2
              all_goals (go_ret3; exact ⟨by rw [HX.out]; rfl, rfl⟩)
            · have HX : Hid (val = .tuple #[.int .i64 (n : Int), .int .i64 ((p + k : Nat) : Int), .bool true]) := by show _ = _; rw [HVal.out, HE, if_neg (by rintro (h | h | h); exact k0 h; exact n5 h; exact z h.2)]
              have hz : ((s[p].toNat : Int) == 48) = false := by
                rw [beq_eq_false_iff_ne]
                intro e
                exact z (by rw [← hb0]; exact UInt8.toNat_inj.1 (by show s[p].toNat = 48; omega))
              clear HE hb0 z
              go_wp2
              all_goals (go_ret3; exact ⟨by rw [HX.out]; rfl, rfl⟩)
          · have HX : Hid (val = .tuple #[.int .i64 (n : Int), .int .i64 ((p + k : Nat) : Int), .bool true]) := by show _ = _; rw [HVal.out, HE, if_neg (by rintro (h | h | h); exact k0 h; exact n5 h; exact k1 h.1)]
            clear HE
            go_wp2
            all_goals (go_ret3; exact ⟨by rw [HX.out]; rfl, rfl⟩)

end Go.Proofs.YtgoiefhhbgollaaGreatDoor
