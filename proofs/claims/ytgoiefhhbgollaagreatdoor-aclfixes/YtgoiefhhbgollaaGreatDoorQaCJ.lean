/- What Address of the document's layer 6 answers. -/
import Derived.Test.YtgoiefhhbgollaaGreatDoorQaAJ
namespace Go.Proofs.YtgoiefhhbgollaaGreatDoor
open Go.RowKit
set_option maxRecDepth 8000

theorem dgs_len : ∀ (k : Nat) (l : Bs), (dgs k l).length ≤ l.length
  | 0, l => by cases l <;> simp [dgs]
  | k + 1, [] => by simp [dgs]
  | k + 1, b :: r => by
    rw [dgs]
    split
    · simp [dgs_len k r]
    · simp

theorem numR_some {l : Bs} {n m : Nat} (h : numR l = some (n, m)) : n ≤ 255 ∧ m ≤ l.length := by
  unfold numR at h
  split at h
  · simp at h
  · rename_i hc
    simp only [Option.some.injEq, Prod.mk.injEq] at h
    have := dgs_len 4 l
    omega

/-- Behind the dot that parts two numbers. -/
def dotR (l : Bs) (k at' : Nat) : Option Nat := if k = 0 then some at' else if at' < l.length ∧ l.getD at' 0 = 46 then some (at' + 1) else none

/-- So many numbers of an address, and the place behind them. -/
def adr (l : Bs) : Nat → Option (Nat × Nat)
  | 0 => some (0, 0)
  | k + 1 => match adr l k with
    | none => none
    | some (all, at') => match dotR l k at' with
      | none => none
      | some a => match numR (l.drop a) with
        | none => none
        | some (n, m) => some (all * 256 + n, a + m)

theorem adr_none {l : Bs} : ∀ {k j : Nat}, adr l k = none → adr l (k + j) = none
  | k, 0, h => h
  | k, j + 1, h => by
    rw [← Nat.add_assoc, adr, adr_none (j := j) h]

theorem adr_dot {l : Bs} {k all at' : Nat} (h : adr l k = some (all, at')) (hd : dotR l k at' = none) : adr l (k + 1) = none := by
  rw [adr, h]; simp only [hd]

theorem adr_num {l : Bs} {k all at' a : Nat} (h : adr l k = some (all, at')) (hd : dotR l k at' = some a) : adr l (k + 1) = (numR (l.drop a)).map fun x => (all * 256 + x.1, a + x.2) := by
  rw [adr, h]; simp only [hd]
  cases numR (l.drop a) with
  | none => rfl
  | some x => rfl

/-- What Address answers. -/
def addrV (l : Bs) : Value := match adr l 4 with
  | none => .tuple #[.int .i64 0, .int .i64 0, .bool false]
  | some (all, at') => .tuple #[.int .i64 (all : Int), .int .i64 (at' : Int), .bool true]

theorem addrV_none {l : Bs} {k : Nat} (hk : k < 4) (h : adr l (k + 1) = none) : addrV l = .tuple #[.int .i64 0, .int .i64 0, .bool false] := by
  have := adr_none (j := 3 - k) h
  rw [show k + 1 + (3 - k) = 4 by omega] at this
  unfold addrV
  rw [this]

def limA (k all : Nat) : Prop := (k = 0 ∧ all = 0) ∨ (k = 1 ∧ all < 256) ∨ (k = 2 ∧ all < 65536) ∨ (k = 3 ∧ all < 16777216) ∨ (k = 4 ∧ all < 4294967296)

set_option maxHeartbeats 1000000 in
theorem address_any (s : ByteArray) (hl : s.size ≤ 4294967296) (w : World) :
    Calls Tryz.prog 92 #[.string s] w fun e w' => e = .returned (addrV s.data.toList) ∧ w' = w := by
  have HS : Hid (s.size = s.data.toList.length) := size_list s
  obtain ⟨val, hval⟩ : ∃ val, val = addrV s.data.toList := ⟨_, rfl⟩
  rw [← hval]
  have HVal : Hid (val = addrV s.data.toList) := hval
  clear hval
  go_enter Tryz.func92, Tryz.ntmps92
  go_wp2
  go_loopw [5, 6, 7] (fun va vp vk wr => ∃ (k all p : Nat), k ≤ 4 ∧ p ≤ s.size ∧ all ≤ 4294967295 ∧ va = .int .i64 (all : Int) ∧ vp = .int .i64 (p : Int) ∧ vk = .int .i64 (k : Int) ∧ Hid (limA k all) ∧ Hid (adr s.data.toList k = some (all, p)) ∧ Hid (wr = w)) (fun _ _ vk _ => 4 - (intOf vk).toNat)
  case atStart => exact ⟨0, 0, 0, by omega, by omega, by omega, rfl, rfl, rfl, .inl ⟨rfl, rfl⟩, rfl, rfl⟩
  case round =>
    obtain ⟨k, all, p, hk, hp, ha, rfl, rfl, rfl, HL, HA, HW⟩ := hrel
    have hW := HW.out
    subst hW
    clear HW
    by_cases hk4 : k < 4
    · have ha3 : all ≤ 16777215 := by have := HL.out; unfold limA at this; omega
      by_cases k0 : k ≤ 0
      · have hdot : dotR s.data.toList k p = some p := by unfold dotR; rw [if_pos (by omega)]
        have hA := adr_num HA.out hdot
        have HN : Hid (∀ w, Calls Tryz.prog 100 #[.string s, .int .i64 (p : Int)] w fun e w' => e = .returned (numV s.data.toList p) ∧ w' = w) := fun w => number_any s p hp hl w
        cases hn : numR (s.data.toList.drop p) with
        | none =>
          have hV : numV s.data.toList p = .tuple #[.int .i64 0, .int .i64 (p : Int), .bool false] := by unfold numV; rw [hn]
          rw [hV] at HN
          rw [hn] at hA
          have HX : Hid (val = .tuple #[.int .i64 0, .int .i64 0, .bool false]) := by show _ = _; rw [HVal.out]; exact addrV_none hk4 hA
          clear hA hn hV hdot
          go_wp2_with fail
          refine (HN.out _).mono ?_
          rintro e w1 ⟨rfl, rfl⟩
          go_wp2
          all_goals (go_ret3; exact ⟨by rw [HX.out]; rfl, rfl⟩)
        | some x =>
          obtain ⟨n, m⟩ := x
          have hV : numV s.data.toList p = .tuple #[.int .i64 (n : Int), .int .i64 ((p + m : Nat) : Int), .bool true] := by unfold numV; rw [hn]
          rw [hV] at HN
          rw [hn] at hA
          have hb := numR_some hn
          rw [List.length_drop, ← HS.out] at hb
          have HX : Hid (adr s.data.toList (k + 1) = some (all * 256 + n, p + m) ∧ limA (k + 1) (all * 256 + n)) := ⟨hA, by have := HL.out; unfold limA at this ⊢; omega⟩
          clear hA hn hV hdot
          go_wp2_with fail
          refine (HN.out _).mono ?_
          rintro e w1 ⟨rfl, rfl⟩
          go_wp2
          go_roundw
          case rel => exact ⟨k + 1, all * 256 + n, p + m, by omega, by omega, by omega, by congr 1, by congr 1, by congr 1, HX.out.2, HX.out.1, trivial⟩
          case measure => simp [intOf]; omega
      · by_cases hlt : p < s.size
        · have hby := byteAt s p hlt
          by_cases z : s.data.toList.getD p 0 = 46
          · have hz : ((s[p].toNat : Int) != 46) = false := by rw [hby, z]; rfl
            have hdot : dotR s.data.toList k p = some (p + 1) := by unfold dotR; rw [if_neg (by omega), if_pos ⟨by rw [← HS.out]; exact hlt, z⟩]
            have hA := adr_num HA.out hdot
            clear hby z
            have HN : Hid (∀ w, Calls Tryz.prog 100 #[.string s, .int .i64 ((p : Int) + 1)] w fun e w' => e = .returned (numV s.data.toList (p + 1)) ∧ w' = w) := fun w => number_any s (p + 1) (by omega) hl w
            cases hn : numR (s.data.toList.drop (p + 1)) with
            | none =>
              have hV : numV s.data.toList (p + 1) = .tuple #[.int .i64 0, .int .i64 ((p + 1 : Nat) : Int), .bool false] := by unfold numV; rw [hn]
              rw [hV] at HN
              rw [hn] at hA
              have HX : Hid (val = .tuple #[.int .i64 0, .int .i64 0, .bool false]) := by show _ = _; rw [HVal.out]; exact addrV_none hk4 hA
              clear hA hn hV hdot
              go_wp2_with fail
              refine (HN.out _).mono ?_
              rintro e w1 ⟨rfl, rfl⟩
              go_wp2
              all_goals (go_ret3; exact ⟨by rw [HX.out]; rfl, rfl⟩)
            | some x =>
              obtain ⟨n, m⟩ := x
              have hV : numV s.data.toList (p + 1) = .tuple #[.int .i64 (n : Int), .int .i64 ((p + 1 + m : Nat) : Int), .bool true] := by unfold numV; rw [hn]
              rw [hV] at HN
              rw [hn] at hA
              have hb := numR_some hn
              rw [List.length_drop, ← HS.out] at hb
              have HX : Hid (adr s.data.toList (k + 1) = some (all * 256 + n, p + 1 + m) ∧ limA (k + 1) (all * 256 + n)) := ⟨hA, by have := HL.out; unfold limA at this ⊢; omega⟩
              clear hA hn hV hdot
              go_wp2_with fail
              refine (HN.out _).mono ?_
              rintro e w1 ⟨rfl, rfl⟩
              go_wp2
              go_roundw
              case rel => exact ⟨k + 1, all * 256 + n, p + 1 + m, by omega, by omega, by omega, by congr 1, by congr 1, by congr 1, HX.out.2, HX.out.1, trivial⟩
              case measure => simp [intOf]; omega
          · have hz : ((s[p].toNat : Int) != 46) = true := by
              rw [bne_iff_ne]
              intro e
              exact z (by rw [← hby]; exact UInt8.toNat_inj.1 (by show s[p].toNat = 46; omega))
            have HX : Hid (val = .tuple #[.int .i64 0, .int .i64 0, .bool false]) := by
              show _ = _
              rw [HVal.out]
              exact addrV_none hk4 (adr_dot HA.out (by unfold dotR; rw [if_neg (by omega), if_neg (fun h => z h.2)]))
            clear hby z
            go_wp2
            all_goals (go_ret3; exact ⟨by rw [HX.out]; rfl, rfl⟩)
        · have HX : Hid (val = .tuple #[.int .i64 0, .int .i64 0, .bool false]) := by
            show _ = _
            rw [HVal.out]
            exact addrV_none hk4 (adr_dot HA.out (by unfold dotR; rw [if_neg (by omega), if_neg (fun h => hlt (by rw [HS.out]; exact h.1))]))
          go_wp2
          all_goals (go_ret3; exact ⟨by rw [HX.out]; rfl, rfl⟩)
    · have HX : Hid (val = .tuple #[.int .i64 (all : Int), .int .i64 (p : Int), .bool true]) := by
        show _ = _
        have h4 : k = 4 := by omega
        have := HA.out
        rw [h4] at this
        rw [HVal.out]
        unfold addrV
        rw [this]
      go_wp2
      all_goals (go_ret3; exact ⟨by rw [HX.out]; rfl, rfl⟩)

end Go.Proofs.YtgoiefhhbgollaaGreatDoor

/- What Range and name of the document's layer 6 answer. -/
namespace Go.Proofs.YtgoiefhhbgollaaGreatDoor
open Go.RowKit
set_option maxRecDepth 8000

theorem adr_le {l : Bs} : ∀ {k all p : Nat}, adr l k = some (all, p) → p ≤ l.length
  | 0, all, p, h => by simp [adr] at h; omega
  | k + 1, all, p, h => by
    cases hk : adr l k with
    | none => rw [adr, hk] at h; simp at h
    | some x =>
      obtain ⟨a0, p0⟩ := x
      have h0 := adr_le hk
      cases hd : dotR l k p0 with
      | none => rw [adr_dot hk hd] at h; simp at h
      | some a =>
        rw [adr_num hk hd] at h
        have ha : a ≤ l.length := by
          unfold dotR at hd
          split at hd
          · simp at hd; omega
          · split at hd
            · simp at hd; omega
            · simp at hd
        cases hn : numR (l.drop a) with
        | none => rw [hn] at h; simp at h
        | some y =>
          obtain ⟨n, m⟩ := y
          rw [hn] at h
          have := numR_some hn
          rw [List.length_drop] at this
          simp at h
          omega

/-- An address or a range: its bits, and how many count. -/
def rngR (l : Bs) : Option (Nat × Nat) := match adr l 4 with
  | none => none
  | some (a, p) => if p = l.length then some (a, 32) else if l.getD p 0 = 47 then match numR (l.drop (p + 1)) with
    | none => none
    | some (n, m) => if p + 1 + m = l.length ∧ n ≤ 32 then some (a, n) else none
    else none

def rngV (l : Bs) : Value := match rngR l with
  | none => .tuple #[.int .i64 0, .int .i64 0, .bool false]
  | some (a, n) => .tuple #[.int .i64 (a : Int), .int .i64 (n : Int), .bool true]

set_option maxHeartbeats 1000000 in
theorem range_any (s : ByteArray) (hl : s.size ≤ 4294967296) (w : World) :
    Calls Tryz.prog 90 #[.string s] w fun e w' => e = .returned (rngV s.data.toList) ∧ w' = w := by
  have HS : Hid (s.size = s.data.toList.length) := size_list s
  obtain ⟨val, hval⟩ : ∃ val, val = rngV s.data.toList := ⟨_, rfl⟩
  rw [← hval]
  have HVal : Hid (val = rngV s.data.toList) := hval
  clear hval
  have HAd : Hid (∀ w, Calls Tryz.prog 92 #[.string s] w fun e w' => e = .returned (addrV s.data.toList) ∧ w' = w) := fun w => address_any s hl w
  cases h4 : adr s.data.toList 4 with
  | none =>
    have hV : addrV s.data.toList = .tuple #[.int .i64 0, .int .i64 0, .bool false] := by unfold addrV; rw [h4]
    have HX : Hid (val = .tuple #[.int .i64 0, .int .i64 0, .bool false]) := by show _ = _; rw [HVal.out]; unfold rngV rngR; rw [h4]
    rw [hV] at HAd
    clear hV h4
    go_enter Tryz.func90, Tryz.ntmps90
    go_wp2_with fail
    refine (HAd.out _).mono ?_
    rintro e w1 ⟨rfl, rfl⟩
    go_wp2
    all_goals (go_ret3; exact ⟨by rw [HX.out]; rfl, rfl⟩)
  | some x =>
    obtain ⟨a, p⟩ := x
    have hV : addrV s.data.toList = .tuple #[.int .i64 (a : Int), .int .i64 (p : Int), .bool true] := by unfold addrV; rw [h4]
    rw [hV] at HAd
    have hp : p ≤ s.size := by rw [HS.out]; exact adr_le h4
    by_cases he : p = s.size
    · have HX : Hid (val = .tuple #[.int .i64 (a : Int), .int .i64 32, .bool true]) := by
        show _ = _; rw [HVal.out]; unfold rngV rngR; rw [h4]; simp only [if_pos (show p = s.data.toList.length by rw [← HS.out]; exact he)]; rfl
      have heq : ((p : Int) == (s.size : Int)) = true := by rw [beq_iff_eq]; omega
      clear hV h4 he
      go_enter Tryz.func90, Tryz.ntmps90
      go_wp2_with fail
      refine (HAd.out _).mono ?_
      rintro e w1 ⟨rfl, rfl⟩
      go_wp2
      all_goals (go_ret3; exact ⟨by rw [HX.out]; rfl, rfl⟩)
    · have hlt : p < s.size := by omega
      have heq : ((p : Int) == (s.size : Int)) = false := by rw [beq_eq_false_iff_ne]; omega
      have hne : ¬ p = s.data.toList.length := by rw [← HS.out]; exact he
      have hby := byteAt s p hlt
      by_cases z : s.data.toList.getD p 0 = 47
      · have hz : ((s[p].toNat : Int) != 47) = false := by rw [hby, z]; rfl
        have HN : Hid (∀ w, Calls Tryz.prog 100 #[.string s, .int .i64 ((p : Int) + 1)] w fun e w' => e = .returned (numV s.data.toList (p + 1)) ∧ w' = w) := fun w => number_any s (p + 1) (by omega) hl w
        cases hn : numR (s.data.toList.drop (p + 1)) with
        | none =>
          have hV2 : numV s.data.toList (p + 1) = .tuple #[.int .i64 0, .int .i64 ((p + 1 : Nat) : Int), .bool false] := by unfold numV; rw [hn]
          rw [hV2] at HN
          have HX : Hid (val = .tuple #[.int .i64 0, .int .i64 0, .bool false]) := by
            show _ = _; rw [HVal.out]; unfold rngV rngR; rw [h4]; simp only [if_neg hne, if_pos z, hn]
          clear hV h4 he hne hby z hn hV2
          go_enter Tryz.func90, Tryz.ntmps90
          go_wp2_with fail
          refine (HAd.out _).mono ?_
          rintro e w1 ⟨rfl, rfl⟩
          go_wp2_with fail
          refine (HN.out _).mono ?_
          rintro e w2 ⟨rfl, rfl⟩
          go_wp2
          all_goals (go_ret3; exact ⟨by rw [HX.out]; rfl, rfl⟩)
        | some y =>
          obtain ⟨n, m⟩ := y
          have hV2 : numV s.data.toList (p + 1) = .tuple #[.int .i64 (n : Int), .int .i64 ((p + 1 + m : Nat) : Int), .bool true] := by unfold numV; rw [hn]
          rw [hV2] at HN
          have hb := numR_some hn
          rw [List.length_drop, ← HS.out] at hb
          by_cases h1 : p + 1 + m = s.size
          · have hq : (((p + 1 + m : Nat) : Int) != (s.size : Int)) = false := by rw [h1]; simp
            have hq2 : (((p : Int) + 1 + (m : Int)) != (s.size : Int)) = false := by rw [← hq]; rfl
            by_cases h2 : n ≤ 32
            · have HX : Hid (val = .tuple #[.int .i64 (a : Int), .int .i64 (n : Int), .bool true]) := by
                show _ = _; rw [HVal.out]; unfold rngV rngR; rw [h4]; simp only [if_neg hne, if_pos z, hn, if_pos (show p + 1 + m = s.data.toList.length ∧ n ≤ 32 from ⟨by rw [← HS.out]; exact h1, h2⟩)]
              clear hV h4 he hne hby z hn hV2 h1
              go_enter Tryz.func90, Tryz.ntmps90
              go_wp2_with fail
              refine (HAd.out _).mono ?_
              rintro e w1 ⟨rfl, rfl⟩
              go_wp2_with fail
              refine (HN.out _).mono ?_
              rintro e w2 ⟨rfl, rfl⟩
              go_wp2
              all_goals (go_ret3; exact ⟨by rw [HX.out]; rfl, rfl⟩)
            · have HX : Hid (val = .tuple #[.int .i64 0, .int .i64 0, .bool false]) := by
                show _ = _; rw [HVal.out]; unfold rngV rngR; rw [h4]; simp only [if_neg hne, if_pos z, hn, if_neg (show ¬ (p + 1 + m = s.data.toList.length ∧ n ≤ 32) from fun h => h2 h.2)]
              clear hV h4 he hne hby z hn hV2 h1
              go_enter Tryz.func90, Tryz.ntmps90
              go_wp2_with fail
              refine (HAd.out _).mono ?_
              rintro e w1 ⟨rfl, rfl⟩
              go_wp2_with fail
              refine (HN.out _).mono ?_
              rintro e w2 ⟨rfl, rfl⟩
              go_wp2
              all_goals (go_ret3; exact ⟨by rw [HX.out]; rfl, rfl⟩)
          · have hq : (((p + 1 + m : Nat) : Int) != (s.size : Int)) = true := by rw [bne_iff_ne]; omega
            have hq2 : (((p : Int) + 1 + (m : Int)) != (s.size : Int)) = true := by rw [← hq]; rfl
            have HX : Hid (val = .tuple #[.int .i64 0, .int .i64 0, .bool false]) := by
              show _ = _; rw [HVal.out]; unfold rngV rngR; rw [h4]; simp only [if_neg hne, if_pos z, hn, if_neg (show ¬ (p + 1 + m = s.data.toList.length ∧ n ≤ 32) from fun h => h1 (by rw [HS.out]; exact h.1))]
            clear hV h4 he hne hby z hn hV2
            go_enter Tryz.func90, Tryz.ntmps90
            go_wp2_with fail
            refine (HAd.out _).mono ?_
            rintro e w1 ⟨rfl, rfl⟩
            go_wp2_with fail
            refine (HN.out _).mono ?_
            rintro e w2 ⟨rfl, rfl⟩
            go_wp2
            all_goals (go_ret3; exact ⟨by rw [HX.out]; rfl, rfl⟩)
      · have hz : ((s[p].toNat : Int) != 47) = true := by
          rw [bne_iff_ne]
          intro e
          exact z (by rw [← hby]; exact UInt8.toNat_inj.1 (by show s[p].toNat = 47; omega))
        have HX : Hid (val = .tuple #[.int .i64 0, .int .i64 0, .bool false]) := by
          show _ = _; rw [HVal.out]; unfold rngV rngR; rw [h4]; simp only [if_neg hne, if_neg z]
        clear hV h4 he hne hby z
        go_enter Tryz.func90, Tryz.ntmps90
        go_wp2_with fail
        refine (HAd.out _).mono ?_
        rintro e w1 ⟨rfl, rfl⟩
        go_wp2
        all_goals (go_ret3; exact ⟨by rw [HX.out]; rfl, rfl⟩)

end Go.Proofs.YtgoiefhhbgollaaGreatDoor
