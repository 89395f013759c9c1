/- What acl.Perms answers. -/
import Derived.Test.YtadidhgaeegokaaDoorQcS
import Derived.Test.YtadidhgaeegokaaDoorQcJ
import Derived.Test.YtadidhgaeegokaaDoorQaF
import Derived.Laws.Cover4
namespace Go.Proofs.YtadidhgaeegokaaDoor
open Go.RowKit Go.Shelf
set_option maxRecDepth 8000

/-- The letters with their places. -/
def ltS : List (Int × Nat) := [(99, 2), (100, 3), (114, 0), (119, 1), (97, 4)]
/-- The letters of n among the first k. -/
def lets (n k : Nat) : List Int := ((ltS.take k).filter fun x => n / 2 ^ x.2 % 2 == 1).map (·.1)

theorem lets_perm : ∀ n : Fin 32, n.1 ≠ 0 → runesBytes (lets n.1 5) = ⟨(permL n.1).toArray⟩ := by decide +kernel

theorem lets_yes {n k : Nat} {r : Int} {s : Nat} (h : ltS[k]? = some (r, s)) (hb : n / 2 ^ s % 2 = 1) : lets n (k + 1) = lets n k ++ [r] := by
  unfold lets
  rw [List.take_add_one, h, List.filter_append]
  simp [hb]

theorem lets_no {n k : Nat} {r : Int} {s : Nat} (h : ltS[k]? = some (r, s)) (hb : n / 2 ^ s % 2 = 0) : lets n (k + 1) = lets n k := by
  unfold lets
  rw [List.take_add_one, h, List.filter_append]
  simp [hb]

theorem lets_len (n k : Nat) : (lets n k).length ≤ 5 := by
  unfold lets
  rw [List.length_map]
  refine Nat.le_trans (List.length_filter_le _ _) ?_
  rw [List.length_take]
  exact Nat.le_trans (Nat.min_le_right _ _) (by decide)

abbrev rns (l : List Int) : List Value := l.map (Value.int .i32)

/-- One more rune behind a list of one's own. -/
theorem app_rn {w : World} {base m : Nat} {v : Value} {l : List Int} {x : Int} (ty : TypeId) (ho : w.ownsRow base 21 1 v l.length (rns l)) (hm : w.heap[m]? = some (.cells #[.int .i32 x] 21 (0, 0))) (hl : l.length ≤ 1000) (hb : base ≤ w.heap.size) :
    ∃ v' w', (Builtin.append_ #[50, 50] ty #[v, .slice (some ⟨m, 0, none⟩) 1 1]).run Tryd.prog w = .ok v' w' ∧ w'.ownsRow base 21 1 v' (l ++ [x]).length (rns (l ++ [x])) ∧ w.grownBy w' v.ownBlock := by
  obtain ⟨i, hi, hz, hs, hby⟩ := info3 (show (Tryd.prog.info? 21).map (fun i => (i.zero, i.size, i.bytes)) = some (some (.int .i32 0), 1, 4) by kernel_rfl)
  obtain ⟨v', w', h1, h2, h3, _⟩ := run_append_own (P := Tryd.prog) w base 50 ty 21 i _ 1 4 Tryd.underlying50 hi hz hs hby rfl (by decide) v l.length (rns l) ho ⟨m, 0, none⟩ 1 1 [.int .i32 x] rfl (fun j u hj => by
    rw [Addr.add_lit, Nat.zero_add, cell_of_row w m j _ _ _ hm, ← Array.getElem?_toList]
    exact hj) (by simp [Value.oneCell']) (by unfold maxLen; omega) (by omega) hb
  refine ⟨v', w', h1, ?_, h3⟩
  rw [List.length_append, show rns (l ++ [x]) = rns l ++ rns [x] from List.map_append]
  exact h2

theorem conv_rns {w : World} {base : Nat} {v : Value} {l : List Int} (h : w.ownsRow base 21 1 v l.length (rns l)) : (convert 50 9 v).run Tryd.prog w = .ok (.string (runesBytes l)) w := by
  obtain ⟨_, ⟨rfl, h0⟩ | ⟨g, cap, cur, rfl, _, a3, a4, _, _, a7⟩⟩ := h
  · have : l = [] := List.length_eq_zero_iff.1 h0
    subst this
    rw [run_convert_runes_nil w _ _ 21 _ _ Tryd.underlying50 Tryd.underlying21 Tryd.underlying9]
    rfl
  · have := run_convert_runes (P := Tryd.prog) w 50 9 21 ⟨g, 0, none⟩ l.length cap l (Nat.le_refl _) Tryd.underlying50 Tryd.underlying21 Tryd.underlying9 (fun j hj => by
      have e1 : (rns l)[j]? = some (.int .i32 (l.getD j 0)) := by
        rw [List.getElem?_map, List.getElem?_eq_getElem hj, List.getD_eq_getElem?_getD, List.getElem?_eq_getElem hj]
        rfl
      rw [← a7, List.getElem?_take, if_pos (by omega)] at e1
      rw [Addr.add_lit, Nat.zero_add, cell_of_row w g j _ _ _ a3, ← Array.getElem?_toList]
      exact e1)
    rw [List.take_length] at this
    exact this

theorem bit8 (m : Nat) (h : m < 32) : bits .and .i8 ((m : Nat) : Int) 1 = ((m % 2 : Nat) : Int) :=
  (show ∀ m : Fin 32, bits .and .i8 ((m.1 : Nat) : Int) 1 = ((m.1 % 2 : Nat) : Int) by decide +kernel) ⟨m, h⟩

set_option maxHeartbeats 2000000 in
theorem aclPerms_in (n : Nat) (h0 : n ≠ 0) (h32 : n < 32) (w : World) (hL : Ltr w) :
    Calls Tryd.prog 9 #[.int .i8 (n : Int)] w fun e w' => e = .returned (permV (n : Int)) ∧ Below w.heap.size w w' := by
  obtain ⟨val, hval⟩ : ∃ val, val = permV (n : Int) := ⟨_, rfl⟩
  rw [← hval]
  have HX : Hid (val = .tuple #[.string (runesBytes (lets n 5)), .int .i64 0]) := by
    show _ = _
    rw [hval, lets_perm ⟨n, h32⟩ h0]
    unfold permV
    rw [if_neg (by omega)]
    rfl
  clear hval
  have HP := isPerms_any (n : Int) w
  rw [decide_eq_true (show (0 : Int) ≤ n ∧ (n : Int) ≤ 31 by omega)] at HP
  obtain ⟨e0, e1, e2, e3, e4, e5, e6, e7, e8, e9⟩ := hL
  have hz : ((n : Int) == 0) = false := by rw [beq_eq_false_iff_ne]; omega
  go_enter Tryd.func9, Tryd.ntmps9
  go_wp2_with fail
  go_at_call 22
  refine HP.mono ?_
  rintro e w1 ⟨rfl, rfl⟩
  clear HP
  go_wp2
  clear e0 e1 e2 e3 e4 e5 e6 e7 e8 e9
  go_loopw [4, 13] (fun vs vi wr => ∃ k : Nat, k ≤ 5 ∧ vi = .int .i64 (k : Int) ∧ Hid (wr.ownsRow w1.heap.size 21 1 vs (lets n k).length (rns (lets n k))) ∧ Hid (Below w1.heap.size w1 wr)) (fun _ vi _ => 5 - (intOf vi).toNat)
  case atStart => exact ⟨0, by omega, rfl, World.ownsRow_nil _ _ _ _, Below.refl _ _⟩
  case round =>
    obtain ⟨k, hk, rfl, HO, HB⟩ := hrel
    have hk6 : k = 0 ∨ k = 1 ∨ k = 2 ∨ k = 3 ∨ k = 4 ∨ k = 5 := by omega
    rcases hk6 with hk6 | hk6 | hk6 | hk6 | hk6 | hk6
    · have e : (k : Int) = 0 := by omega
      rw [e]
      have hi := ltr0
      have B1 : Below wr.heap.size wr (wr.alloc (.cells #[.int .i32 99, .int .u8 2] 51)) := (Below.refl _ _).alloc (Nat.le_refl _) _
      have hz1 : (wr.alloc (.cells #[.int .i32 99, .int .u8 2] 51)).heap.size = wr.heap.size + 1 := by simp
      have B2 : Below wr.heap.size wr ((wr.alloc (.cells #[.int .i32 99, .int .u8 2] 51)).alloc (.cells #[.int .i32 99] 21)) := B1.alloc (by omega) _
      have hm : ((wr.alloc (.cells #[.int .i32 99, .int .u8 2] 51)).alloc (.cells #[.int .i32 99] 21)).heap[wr.heap.size + 1]? = some (.cells #[.int .i32 99] 21 (0, 0)) := alloc_newq hz1.symm
      have hBW1 : Below w1.heap.size w1 (wr.alloc (.cells #[.int .i32 99, .int .u8 2] 51)) := HB.out.trans (B1.mono HB.out.size)
      have hBW2 : Below w1.heap.size w1 ((wr.alloc (.cells #[.int .i32 99, .int .u8 2] 51)).alloc (.cells #[.int .i32 99] 21)) := HB.out.trans (B2.mono HB.out.size)
      have hb8 := bit8 (n / 4) (by omega)
      by_cases hb : n / 2 ^ 2 % 2 = 1
      · obtain ⟨v', w', hr, ho, hg⟩ := app_rn (x := 99) 50 (owns_below HO.out B2) hm (Nat.le_trans (lets_len n k) (by decide)) hBW2.size
        have HN : Hid (w'.ownsRow w1.heap.size 21 1 v' (lets n (k + 1)).length (rns (lets n (k + 1))) ∧ Below w1.heap.size w1 w') := by
          rw [lets_yes (k := k) (r := 99) (s := 2) (by rw [hk6]; rfl) hb]
          exact ⟨ho, grown_below hBW2 (owns_below HO.out B2) hg⟩
        have hq : (bits .and .i8 ((n : Int) / 4) 1 == 1) = true := by
          have e1 : (n : Int) / 4 = ((n / 4 : Nat) : Int) := by omega
          rw [e1, hb8, beq_iff_eq]
          have : n / 4 % 2 = 1 := hb
          omega
        clear hb8 hb B1 hz1 B2 hm hBW1 hBW2 ho hg HO
        go_wp2_with (at_builtin; refine Lib.wpList_append_run_sl _ rfl _ _ 50 rfl _ _ rfl rfl hr ?_)
        go_roundw
        case rel => exact ⟨k + 1, by omega, by rw [hk6]; rfl, HN.out.1, HN.out.2⟩
        case measure => simp [intOf]
      · have HN : Hid ((wr.alloc (.cells #[.int .i32 99, .int .u8 2] 51)).ownsRow w1.heap.size 21 1 u4 (lets n (k + 1)).length (rns (lets n (k + 1))) ∧ Below w1.heap.size w1 (wr.alloc (.cells #[.int .i32 99, .int .u8 2] 51))) := by
          rw [lets_no (k := k) (r := 99) (s := 2) (by rw [hk6]; rfl) (by omega)]
          exact ⟨owns_below HO.out B1, hBW1⟩
        have hq : (bits .and .i8 ((n : Int) / 4) 1 == 1) = false := by
          have e1 : (n : Int) / 4 = ((n / 4 : Nat) : Int) := by omega
          rw [e1, hb8, beq_eq_false_iff_ne]
          have : ¬ n / 4 % 2 = 1 := hb
          omega
        clear hb8 hb B1 hz1 B2 hm hBW1 hBW2 HO
        go_wp2
        go_roundw
        case rel => exact ⟨k + 1, by omega, by rw [hk6]; rfl, HN.out.1, HN.out.2⟩
        case measure => simp [intOf]
    · have e : (k : Int) = 1 := by omega
      rw [e]
      have hi := ltr1
      have B1 : Below wr.heap.size wr (wr.alloc (.cells #[.int .i32 100, .int .u8 3] 51)) := (Below.refl _ _).alloc (Nat.le_refl _) _
      have hz1 : (wr.alloc (.cells #[.int .i32 100, .int .u8 3] 51)).heap.size = wr.heap.size + 1 := by simp
      have B2 : Below wr.heap.size wr ((wr.alloc (.cells #[.int .i32 100, .int .u8 3] 51)).alloc (.cells #[.int .i32 100] 21)) := B1.alloc (by omega) _
      have hm : ((wr.alloc (.cells #[.int .i32 100, .int .u8 3] 51)).alloc (.cells #[.int .i32 100] 21)).heap[wr.heap.size + 1]? = some (.cells #[.int .i32 100] 21 (0, 0)) := alloc_newq hz1.symm
      have hBW1 : Below w1.heap.size w1 (wr.alloc (.cells #[.int .i32 100, .int .u8 3] 51)) := HB.out.trans (B1.mono HB.out.size)
      have hBW2 : Below w1.heap.size w1 ((wr.alloc (.cells #[.int .i32 100, .int .u8 3] 51)).alloc (.cells #[.int .i32 100] 21)) := HB.out.trans (B2.mono HB.out.size)
      have hb8 := bit8 (n / 8) (by omega)
      by_cases hb : n / 2 ^ 3 % 2 = 1
      · obtain ⟨v', w', hr, ho, hg⟩ := app_rn (x := 100) 50 (owns_below HO.out B2) hm (Nat.le_trans (lets_len n k) (by decide)) hBW2.size
        have HN : Hid (w'.ownsRow w1.heap.size 21 1 v' (lets n (k + 1)).length (rns (lets n (k + 1))) ∧ Below w1.heap.size w1 w') := by
          rw [lets_yes (k := k) (r := 100) (s := 3) (by rw [hk6]; rfl) hb]
          exact ⟨ho, grown_below hBW2 (owns_below HO.out B2) hg⟩
        have hq : (bits .and .i8 ((n : Int) / 8) 1 == 1) = true := by
          have e1 : (n : Int) / 8 = ((n / 8 : Nat) : Int) := by omega
          rw [e1, hb8, beq_iff_eq]
          have : n / 8 % 2 = 1 := hb
          omega
        clear hb8 hb B1 hz1 B2 hm hBW1 hBW2 ho hg HO
        go_wp2_with (at_builtin; refine Lib.wpList_append_run_sl _ rfl _ _ 50 rfl _ _ rfl rfl hr ?_)
        go_roundw
        case rel => exact ⟨k + 1, by omega, by rw [hk6]; rfl, HN.out.1, HN.out.2⟩
        case measure => simp [intOf]
      · have HN : Hid ((wr.alloc (.cells #[.int .i32 100, .int .u8 3] 51)).ownsRow w1.heap.size 21 1 u4 (lets n (k + 1)).length (rns (lets n (k + 1))) ∧ Below w1.heap.size w1 (wr.alloc (.cells #[.int .i32 100, .int .u8 3] 51))) := by
          rw [lets_no (k := k) (r := 100) (s := 3) (by rw [hk6]; rfl) (by omega)]
          exact ⟨owns_below HO.out B1, hBW1⟩
        have hq : (bits .and .i8 ((n : Int) / 8) 1 == 1) = false := by
          have e1 : (n : Int) / 8 = ((n / 8 : Nat) : Int) := by omega
          rw [e1, hb8, beq_eq_false_iff_ne]
          have : ¬ n / 8 % 2 = 1 := hb
          omega
        clear hb8 hb B1 hz1 B2 hm hBW1 hBW2 HO
        go_wp2
        go_roundw
        case rel => exact ⟨k + 1, by omega, by rw [hk6]; rfl, HN.out.1, HN.out.2⟩
        case measure => simp [intOf]
    · have e : (k : Int) = 2 := by omega
      rw [e]
      have hi := ltr2
      have B1 : Below wr.heap.size wr (wr.alloc (.cells #[.int .i32 114, .int .u8 0] 51)) := (Below.refl _ _).alloc (Nat.le_refl _) _
      have hz1 : (wr.alloc (.cells #[.int .i32 114, .int .u8 0] 51)).heap.size = wr.heap.size + 1 := by simp
      have B2 : Below wr.heap.size wr ((wr.alloc (.cells #[.int .i32 114, .int .u8 0] 51)).alloc (.cells #[.int .i32 114] 21)) := B1.alloc (by omega) _
      have hm : ((wr.alloc (.cells #[.int .i32 114, .int .u8 0] 51)).alloc (.cells #[.int .i32 114] 21)).heap[wr.heap.size + 1]? = some (.cells #[.int .i32 114] 21 (0, 0)) := alloc_newq hz1.symm
      have hBW1 : Below w1.heap.size w1 (wr.alloc (.cells #[.int .i32 114, .int .u8 0] 51)) := HB.out.trans (B1.mono HB.out.size)
      have hBW2 : Below w1.heap.size w1 ((wr.alloc (.cells #[.int .i32 114, .int .u8 0] 51)).alloc (.cells #[.int .i32 114] 21)) := HB.out.trans (B2.mono HB.out.size)
      have hb8 := bit8 (n / 1) (by omega)
      by_cases hb : n / 2 ^ 0 % 2 = 1
      · obtain ⟨v', w', hr, ho, hg⟩ := app_rn (x := 114) 50 (owns_below HO.out B2) hm (Nat.le_trans (lets_len n k) (by decide)) hBW2.size
        have HN : Hid (w'.ownsRow w1.heap.size 21 1 v' (lets n (k + 1)).length (rns (lets n (k + 1))) ∧ Below w1.heap.size w1 w') := by
          rw [lets_yes (k := k) (r := 114) (s := 0) (by rw [hk6]; rfl) hb]
          exact ⟨ho, grown_below hBW2 (owns_below HO.out B2) hg⟩
        have hq : (bits .and .i8 ((n : Int)) 1 == 1) = true := by
          have e1 : (n : Int) = ((n / 1 : Nat) : Int) := by omega
          rw [e1, hb8, beq_iff_eq]
          have : n / 1 % 2 = 1 := hb
          omega
        clear hb8 hb B1 hz1 B2 hm hBW1 hBW2 ho hg HO
        go_wp2_with (at_builtin; refine Lib.wpList_append_run_sl _ rfl _ _ 50 rfl _ _ rfl rfl hr ?_)
        go_roundw
        case rel => exact ⟨k + 1, by omega, by rw [hk6]; rfl, HN.out.1, HN.out.2⟩
        case measure => simp [intOf]
      · have HN : Hid ((wr.alloc (.cells #[.int .i32 114, .int .u8 0] 51)).ownsRow w1.heap.size 21 1 u4 (lets n (k + 1)).length (rns (lets n (k + 1))) ∧ Below w1.heap.size w1 (wr.alloc (.cells #[.int .i32 114, .int .u8 0] 51))) := by
          rw [lets_no (k := k) (r := 114) (s := 0) (by rw [hk6]; rfl) (by omega)]
          exact ⟨owns_below HO.out B1, hBW1⟩
        have hq : (bits .and .i8 ((n : Int)) 1 == 1) = false := by
          have e1 : (n : Int) = ((n / 1 : Nat) : Int) := by omega
          rw [e1, hb8, beq_eq_false_iff_ne]
          have : ¬ n / 1 % 2 = 1 := hb
          omega
        clear hb8 hb B1 hz1 B2 hm hBW1 hBW2 HO
        go_wp2
        go_roundw
        case rel => exact ⟨k + 1, by omega, by rw [hk6]; rfl, HN.out.1, HN.out.2⟩
        case measure => simp [intOf]
    · have e : (k : Int) = 3 := by omega
      rw [e]
      have hi := ltr3
      have B1 : Below wr.heap.size wr (wr.alloc (.cells #[.int .i32 119, .int .u8 1] 51)) := (Below.refl _ _).alloc (Nat.le_refl _) _
      have hz1 : (wr.alloc (.cells #[.int .i32 119, .int .u8 1] 51)).heap.size = wr.heap.size + 1 := by simp
      have B2 : Below wr.heap.size wr ((wr.alloc (.cells #[.int .i32 119, .int .u8 1] 51)).alloc (.cells #[.int .i32 119] 21)) := B1.alloc (by omega) _
      have hm : ((wr.alloc (.cells #[.int .i32 119, .int .u8 1] 51)).alloc (.cells #[.int .i32 119] 21)).heap[wr.heap.size + 1]? = some (.cells #[.int .i32 119] 21 (0, 0)) := alloc_newq hz1.symm
      have hBW1 : Below w1.heap.size w1 (wr.alloc (.cells #[.int .i32 119, .int .u8 1] 51)) := HB.out.trans (B1.mono HB.out.size)
      have hBW2 : Below w1.heap.size w1 ((wr.alloc (.cells #[.int .i32 119, .int .u8 1] 51)).alloc (.cells #[.int .i32 119] 21)) := HB.out.trans (B2.mono HB.out.size)
      have hb8 := bit8 (n / 2) (by omega)
      by_cases hb : n / 2 ^ 1 % 2 = 1
      · obtain ⟨v', w', hr, ho, hg⟩ := app_rn (x := 119) 50 (owns_below HO.out B2) hm (Nat.le_trans (lets_len n k) (by decide)) hBW2.size
        have HN : Hid (w'.ownsRow w1.heap.size 21 1 v' (lets n (k + 1)).length (rns (lets n (k + 1))) ∧ Below w1.heap.size w1 w') := by
          rw [lets_yes (k := k) (r := 119) (s := 1) (by rw [hk6]; rfl) hb]
          exact ⟨ho, grown_below hBW2 (owns_below HO.out B2) hg⟩
        have hq : (bits .and .i8 ((n : Int) / 2) 1 == 1) = true := by
          have e1 : (n : Int) / 2 = ((n / 2 : Nat) : Int) := by omega
          rw [e1, hb8, beq_iff_eq]
          have : n / 2 % 2 = 1 := hb
          omega
        clear hb8 hb B1 hz1 B2 hm hBW1 hBW2 ho hg HO
        go_wp2_with (at_builtin; refine Lib.wpList_append_run_sl _ rfl _ _ 50 rfl _ _ rfl rfl hr ?_)
        go_roundw
        case rel => exact ⟨k + 1, by omega, by rw [hk6]; rfl, HN.out.1, HN.out.2⟩
        case measure => simp [intOf]
      · have HN : Hid ((wr.alloc (.cells #[.int .i32 119, .int .u8 1] 51)).ownsRow w1.heap.size 21 1 u4 (lets n (k + 1)).length (rns (lets n (k + 1))) ∧ Below w1.heap.size w1 (wr.alloc (.cells #[.int .i32 119, .int .u8 1] 51))) := by
          rw [lets_no (k := k) (r := 119) (s := 1) (by rw [hk6]; rfl) (by omega)]
          exact ⟨owns_below HO.out B1, hBW1⟩
        have hq : (bits .and .i8 ((n : Int) / 2) 1 == 1) = false := by
          have e1 : (n : Int) / 2 = ((n / 2 : Nat) : Int) := by omega
          rw [e1, hb8, beq_eq_false_iff_ne]
          have : ¬ n / 2 % 2 = 1 := hb
          omega
        clear hb8 hb B1 hz1 B2 hm hBW1 hBW2 HO
        go_wp2
        go_roundw
        case rel => exact ⟨k + 1, by omega, by rw [hk6]; rfl, HN.out.1, HN.out.2⟩
        case measure => simp [intOf]
    · have e : (k : Int) = 4 := by omega
      rw [e]
      have hi := ltr4
      have B1 : Below wr.heap.size wr (wr.alloc (.cells #[.int .i32 97, .int .u8 4] 51)) := (Below.refl _ _).alloc (Nat.le_refl _) _
      have hz1 : (wr.alloc (.cells #[.int .i32 97, .int .u8 4] 51)).heap.size = wr.heap.size + 1 := by simp
      have B2 : Below wr.heap.size wr ((wr.alloc (.cells #[.int .i32 97, .int .u8 4] 51)).alloc (.cells #[.int .i32 97] 21)) := B1.alloc (by omega) _
      have hm : ((wr.alloc (.cells #[.int .i32 97, .int .u8 4] 51)).alloc (.cells #[.int .i32 97] 21)).heap[wr.heap.size + 1]? = some (.cells #[.int .i32 97] 21 (0, 0)) := alloc_newq hz1.symm
      have hBW1 : Below w1.heap.size w1 (wr.alloc (.cells #[.int .i32 97, .int .u8 4] 51)) := HB.out.trans (B1.mono HB.out.size)
      have hBW2 : Below w1.heap.size w1 ((wr.alloc (.cells #[.int .i32 97, .int .u8 4] 51)).alloc (.cells #[.int .i32 97] 21)) := HB.out.trans (B2.mono HB.out.size)
      have hb8 := bit8 (n / 16) (by omega)
      by_cases hb : n / 2 ^ 4 % 2 = 1
      · obtain ⟨v', w', hr, ho, hg⟩ := app_rn (x := 97) 50 (owns_below HO.out B2) hm (Nat.le_trans (lets_len n k) (by decide)) hBW2.size
        have HN : Hid (w'.ownsRow w1.heap.size 21 1 v' (lets n (k + 1)).length (rns (lets n (k + 1))) ∧ Below w1.heap.size w1 w') := by
          rw [lets_yes (k := k) (r := 97) (s := 4) (by rw [hk6]; rfl) hb]
          exact ⟨ho, grown_below hBW2 (owns_below HO.out B2) hg⟩
        have hq : (bits .and .i8 ((n : Int) / 16) 1 == 1) = true := by
          have e1 : (n : Int) / 16 = ((n / 16 : Nat) : Int) := by omega
          rw [e1, hb8, beq_iff_eq]
          have : n / 16 % 2 = 1 := hb
          omega
        clear hb8 hb B1 hz1 B2 hm hBW1 hBW2 ho hg HO
        go_wp2_with (at_builtin; refine Lib.wpList_append_run_sl _ rfl _ _ 50 rfl _ _ rfl rfl hr ?_)
        go_roundw
        case rel => exact ⟨k + 1, by omega, by rw [hk6]; rfl, HN.out.1, HN.out.2⟩
        case measure => simp [intOf]
      · have HN : Hid ((wr.alloc (.cells #[.int .i32 97, .int .u8 4] 51)).ownsRow w1.heap.size 21 1 u4 (lets n (k + 1)).length (rns (lets n (k + 1))) ∧ Below w1.heap.size w1 (wr.alloc (.cells #[.int .i32 97, .int .u8 4] 51))) := by
          rw [lets_no (k := k) (r := 97) (s := 4) (by rw [hk6]; rfl) (by omega)]
          exact ⟨owns_below HO.out B1, hBW1⟩
        have hq : (bits .and .i8 ((n : Int) / 16) 1 == 1) = false := by
          have e1 : (n : Int) / 16 = ((n / 16 : Nat) : Int) := by omega
          rw [e1, hb8, beq_eq_false_iff_ne]
          have : ¬ n / 16 % 2 = 1 := hb
          omega
        clear hb8 hb B1 hz1 B2 hm hBW1 hBW2 HO
        go_wp2
        go_roundw
        case rel => exact ⟨k + 1, by omega, by rw [hk6]; rfl, HN.out.1, HN.out.2⟩
        case measure => simp [intOf]
    · have e : (k : Int) = 5 := by omega
      rw [e]
      rw [hk6] at HO
      have hcv := conv_rns HO.out
      have HC := HX.out
      generalize runesBytes (lets n 5) = sv at *
      obtain ⟨ao, sl, sc, rfl⟩ : ∃ ao sl sc, u4 = .slice ao sl sc := by
        obtain ⟨_, ⟨rfl, _⟩ | ⟨g, cap, cur, rfl, _⟩⟩ := HO.out
        · exact ⟨_, _, _, rfl⟩
        · exact ⟨_, _, _, rfl⟩
      clear HO HX
      subst HC
      go_wp2
      go_ret2
      exact ⟨rfl, HB.out⟩

/-- What acl.Perms answers, for every number. -/
theorem aclPerms_any (p : Int) (w : World) (hL : Ltr w) :
    Calls Tryd.prog 9 #[.int .i8 p] w fun e w' => e = .returned (permV p) ∧ Below w.heap.size w w' := by
  by_cases h : 0 ≤ p ∧ p ≤ 31
  · obtain ⟨n, rfl, hn⟩ : ∃ n : Nat, p = (n : Int) ∧ n < 32 := ⟨p.toNat, by omega, by omega⟩
    by_cases h0 : n = 0
    · subst h0
      have HP := isPerms_any 0 w
      rw [decide_eq_true (show (0 : Int) ≤ 0 ∧ (0 : Int) ≤ 31 by omega)] at HP
      clear hL h hn
      show Calls Tryd.prog 9 #[.int .i8 0] w fun e w' => e = .returned (.tuple #[.string ⟨#[45]⟩, .int .i64 0]) ∧ Below w.heap.size w w'
      go_enter Tryd.func9, Tryd.ntmps9
      go_wp2_with fail
      go_at_call 22
      refine HP.mono ?_
      rintro e w1 ⟨rfl, rfl⟩
      clear HP
      go_wp2
      go_ret2
      exact ⟨rfl, Below.refl _ _⟩
    · exact aclPerms_in n h0 hn w hL
  · have HX : permV p = .tuple #[.string ⟨#[]⟩, .int .i64 60] := by unfold permV; rw [if_pos (by omega)]
    rw [HX]
    have HP := isPerms_any p w
    rw [decide_eq_false h] at HP
    clear hL h HX
    go_enter Tryd.func9, Tryd.ntmps9
    go_wp2_with fail
    go_at_call 22
    refine HP.mono ?_
    rintro e w1 ⟨rfl, rfl⟩
    clear HP
    go_wp2
    go_ret2
    exact ⟨rfl, Below.refl _ _⟩

end Go.Proofs.YtadidhgaeegokaaDoor
