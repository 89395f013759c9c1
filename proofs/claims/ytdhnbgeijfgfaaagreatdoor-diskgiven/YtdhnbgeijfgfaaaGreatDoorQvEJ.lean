/- What the document's Has and Least answer. -/
import Derived.Test.YtdhnbgeijfgfaaaGreatDoorQvAJ
import Derived.Laws.OwnMore
import Derived.Maps.AppendAt
namespace Go.Proofs.YtdhnbgeijfgfaaaGreatDoor
open Go.RowKit Go.Shelf
set_option maxRecDepth 8000

theorem part_255 (D : SyD) (hD : D.Good) (g : Nat) : D.part (255 : Nat).testBit g D.n = D.whole g D.n := sumQ_congr fun i hi => by
  have := hD.n7
  rw [show (255 : Nat) = 2 ^ 8 - 1 from rfl, Nat.testBit_two_pow_sub_one, decide_eq_true (show i < 8 by omega)]
  simp

/-- Among the first k servers: is t a part of S; are they the same? -/
def paB (t S : Nat) : Nat → Bool
  | 0 => true
  | k + 1 => paB t S k && (S.testBit k || !t.testBit k)
def saB (t S : Nat) : Nat → Bool
  | 0 => true
  | k + 1 => saB t S k && (t.testBit k == S.testBit k)
theorem paB_iff (t S k : Nat) : paB t S k = true ↔ ∀ i, i < k → t.testBit i = true → S.testBit i = true := by
  induction k with
  | zero => simp [paB]
  | succ k ih =>
    unfold paB
    rw [Bool.and_eq_true, ih]
    constructor
    · rintro ⟨h1, h2⟩ i hi ht
      by_cases e : i = k
      · subst e; rw [ht] at h2; simpa using h2
      · exact h1 i (by omega) ht
    · intro h
      refine ⟨fun i hi => h i (by omega), ?_⟩
      have := h k (by omega)
      cases e1 : t.testBit k <;> cases e2 : S.testBit k <;> simp_all
theorem saB_iff (t S k : Nat) : saB t S k = true ↔ ∀ i, i < k → t.testBit i = S.testBit i := by
  induction k with
  | zero => simp [saB]
  | succ k ih =>
    unfold saB
    rw [Bool.and_eq_true, ih]
    constructor
    · rintro ⟨h1, h2⟩ i hi
      by_cases e : i = k
      · subst e; simpa using h2
      · exact h1 i (by omega)
    · intro h
      exact ⟨fun i hi => h i (by omega), by rw [h k (by omega)]; simp⟩
/-- The document's least, over the first k sets. -/
def SyD.ldB (D : SyD) (S : Nat) : Nat → Bool
  | 0 => true
  | t + 1 => D.ldB S t && !(paB t S D.n && !saB t S D.n && D.has t.testBit)
theorem SyD.ldB_iff (D : SyD) (S k : Nat) : D.ldB S k = true ↔ ∀ t, t < k → paB t S D.n = true → saB t S D.n = false → D.has t.testBit = false := by
  induction k with
  | zero => simp [SyD.ldB]
  | succ k ih =>
    unfold SyD.ldB
    rw [Bool.and_eq_true, ih]
    constructor
    · rintro ⟨h1, h2⟩ t ht p s
      by_cases e : t = k
      · subst e; rw [p, s] at h2; simpa using h2
      · exact h1 t (by omega) p s
    · intro h
      refine ⟨fun t ht => h t (by omega), ?_⟩
      have := h k (by omega)
      cases e1 : paB k S D.n <;> cases e2 : saB k S D.n <;> cases e3 : D.has k.testBit <;> simp_all
theorem SyD.ld_least {D : SyD} (hD : D.Good) {S : Nat} (hS : S < 256) : D.ldB S 128 = D.lst S.testBit D.n := by
  have n7 := hD.n7
  have iff : D.ldB S 128 = true ↔ D.lst S.testBit D.n = true := by
    rw [D.ldB_iff, D.lst_iff]
    constructor
    · intro h i hi hs
      have hb := fun j => delB_bit (i := i) hS j
      have h7 : delB S i &&& 127 < 128 := Nat.lt_of_le_of_lt Nat.and_le_right (by omega)
      have ht : ∀ j, j < D.n → (delB S i &&& 127).testBit j = (S.testBit j && j != i) := fun j hj => by
        rw [Nat.testBit_and, show (127 : Nat) = 2 ^ 7 - 1 from rfl, Nat.testBit_two_pow_sub_one, decide_eq_true (show j < 7 by omega), Bool.and_true, hb]
      have := h _ h7 ((paB_iff _ _ _).2 fun j hj q => by rw [ht j hj] at q; simp at q; exact q.1) (by
        cases e : saB (delB S i &&& 127) S D.n with
        | false => rfl
        | true =>
          have := (saB_iff _ _ _).1 e i hi
          rw [ht i hi, hs] at this
          simp at this)
      rw [← this]
      exact (D.has_congr fun j hj => (ht j hj).symm)
    · intro h t ht p s
      have p' := (paB_iff _ _ _).1 p
      have : ∃ i, i < D.n ∧ S.testBit i = true ∧ t.testBit i = false := Classical.byContradiction fun q => by
        have : saB t S D.n = true := (saB_iff _ _ _).2 fun i hi => by
          cases e1 : t.testBit i with
          | true => rw [p' i hi e1]
          | false =>
            cases e2 : S.testBit i with
            | false => rfl
            | true => exact absurd ⟨i, hi, e2, e1⟩ q
        rw [s] at this
        cases this
      obtain ⟨i, hi, hs, htf⟩ := this
      cases e : D.has t.testBit with
      | false => rfl
      | true =>
        have h2 := h i hi hs
        have := D.has_mono hD (S := t.testBit) (T := fun j => S.testBit j && j != i) (fun j hj q => by
          have h1 := p' j hj q
          have h3 : j ≠ i := fun e => by rw [e, htf] at q; cases q
          simp [h1, h3]) e
        rw [h2] at this
        cases this
  cases e1 : D.ldB S 128 <;> cases e2 : D.lst S.testBit D.n <;> simp_all

end Go.Proofs.YtdhnbgeijfgfaaaGreatDoor

/- The document's New; CopyInts of lagoonref00. -/
namespace Go.Proofs.YtdhnbgeijfgfaaaGreatDoor
open Go.RowKit Go.Shelf
set_option maxRecDepth 8000

/-- Does one of the first k weigh something? -/
def soB (ws : List Int) : Nat → Bool
  | 0 => false
  | k + 1 => soB ws k || decide (0 < ws.getD k 0)
theorem soB_iff (ws : List Int) (k : Nat) : soB ws k = true ↔ ∃ i, i < k ∧ 0 < ws.getD i 0 := by
  induction k with
  | zero => simp [soB]
  | succ k ih =>
    unfold soB
    rw [Bool.or_eq_true, ih, decide_eq_true_iff]
    constructor
    · rintro (⟨i, h1, h2⟩ | h)
      · exact ⟨i, by omega, h2⟩
      · exact ⟨k, by omega, h⟩
    · rintro ⟨i, h1, h2⟩
      by_cases e : i = k
      · subst e; exact .inr h2
      · exact .inl ⟨i, by omega, h2⟩

end Go.Proofs.YtdhnbgeijfgfaaaGreatDoor

/- What the document's Least answers. -/
namespace Go.Proofs.YtdhnbgeijfgfaaaGreatDoor
open Go.RowKit Go.Shelf
set_option maxRecDepth 8000

end Go.Proofs.YtdhnbgeijfgfaaaGreatDoor

/- What WideInts, SpareInts and EqInts of lagoonref00 answer. -/
namespace Go.Proofs.YtdhnbgeijfgfaaaGreatDoor
open Go.RowKit Go.Shelf
set_option maxRecDepth 8000

/-- A list with its marks behind it. -/
def wdI (xs : List Int) (j : Nat) : Int := if j < xs.length then xs.getD j 0 else -3000000 - j
/-- A wide list in memory. -/
structure WdQ (w : World) (g : Nat) (n : Nat) (f : Nat → Int) : Prop where
  row : w.rowIs g 3 (n + 64) (fun j => .int .i64 (f j))
  few : n ≤ 3000000000
theorem WdQ.sees {w : World} {g n : Nat} {f : Nat → Int} (h : WdQ w g n f) : SeesQ w (.slice (some ⟨g, 0, none⟩) n (n + 64)) ((List.range n).map f) := by
  have hn := h.few
  refine ⟨some ⟨g, 0, none⟩, n + 64, by simp, by simp, by unfold maxLen; omega, ?_⟩
  by_cases e : n = 0
  · subst e; exact .inl rfl
  · refine .inr ⟨g, 0, rfl, fun i hi => ?_⟩
    have hi' : i < n := by simpa using hi
    rw [Nat.zero_add, h.row.cell (i := i) (by omega)]
    simp
theorem map_wdI (xs : List Int) : (List.range xs.length).map (wdI xs) = xs := by
  apply List.ext_getElem
  · simp
  · intro i h1 h2
    simp [wdI, h2]
theorem WdQ.below {w w' : World} {g n : Nat} {f : Nat → Int} (h : WdQ w g n f) (hb : Below w.heap.size w w') : WdQ w' g n f := ⟨h.row.of_block (by
  have h1 := h.row.lt
  have := (Below.kept hb).block g h1 (by omega)
  exact this), h.few⟩

theorem own_row7 {w : World} {g n : Nat} {xs : List Value} {f : Nat → Value} (h : w.ownsRow g 3 1 (.slice (some ⟨g, 0, none⟩) n n) n xs) (hf : ∀ i, i < n → xs[i]? = some (f i)) : w.rowIs g 3 n f := by
  obtain ⟨hl, ⟨h1, _⟩ | ⟨g', cap, cur, h1, _, hg, _, _, hs, ht⟩⟩ := h
  · cases h1
  · cases h1
    refine ⟨cur, hg, by omega, fun i hi => ?_⟩
    have := hf i hi
    rw [← ht, List.getElem?_take, if_pos (by omega)] at this
    simpa using this

set_option maxHeartbeats 400000 in
theorem wideInts_any (v : Value) (xs : List Int) (w : World) (h : SeesQ w v xs) (hreach : xs.length ≤ 3000000000) :
    Calls Tryz.prog 13 #[v] w fun e w' => e = .returned (.slice (some ⟨w.heap.size, 0, none⟩) xs.length (xs.length + 64)) ∧ WdQ w' w.heap.size xs.length (wdI xs) ∧ Below w.heap.size w w' := by
  obtain ⟨ao, cap, rfl, hlc, hcm, h3⟩ := h
  unfold maxLen at hcm
  obtain ⟨i0, hi, hz0, hz1, hz2⟩ := info_parts Tryz.infoI7
  have HX3 : Hid (xs = [] ∨ ∃ b off, ao = some ⟨b, off, none⟩ ∧ ∀ (i : Nat) (h : i < xs.length), w.cell? ⟨b, off + i, none⟩ = some (.int .i64 xs[i])) := h3
  clear h3
  go_enter Tryz.func13, Tryz.ntmps13
  go_wp2_with (at_make; refine wpList_make_full _ rfl _ _ 39 rfl w.heap.size 3 i0 (.int .i64 0) 1 Tryz.underlying39 hi hz0 hz1 .i64 .i64 _ _ (xs.length + 64) rfl rfl (by omega) (by omega) (by rw [hz2]; omega) (by unfold maxLen; omega) (Nat.le_refl _) ?_)
  intro w0 hown0 hgrow0
  have HR0 : Hid (w0.rowIs w.heap.size 3 (xs.length + 64) (fun _ => .int .i64 0)) := own_row7 hown0 (fun i hi => by rw [toList_madeCells_one, List.getElem?_replicate, if_pos hi])
  have HB0 : Hid (Below w.heap.size w w0) := (Below.refl _ _).grown hgrow0 (Nat.le_refl _) (fun k hk => by cases hk)
  clear hown0 hgrow0
  go_wp2
  go_loopw [4] (fun i wr => ∃ k : Nat, k ≤ xs.length + 64 ∧ i = .int .i64 k ∧ Hid (wr.rowIs w.heap.size 3 (xs.length + 64) (fun j => .int .i64 (if j < k then wdI xs j else 0)) ∧ Below w.heap.size w wr)) (fun i _ => xs.length + 64 - (intOf i).toNat)
  case atStart => exact ⟨0, Nat.zero_le _, rfl, HR0.out, HB0.out⟩
  case round =>
    clear HR0 HB0 w0
    obtain ⟨k, hk, rfl, HW⟩ := hrel
    by_cases hlt : k < xs.length + 64
    · have hcz := HW.out.1.cell (i := k) hlt
      have hfz := HW.out.1.frozen k
      have hzr := HW.out.1.lt
      have k0 : (0 : Int) ≤ (k : Int) := by omega
      have k1 : (k : Int) < ((xs.length + 64 : Nat) : Int) := by omega
      have HS : Hid (∀ x, x = wdI xs k → (wr.setCell ⟨w.heap.size, k, none⟩ (.int .i64 x)).rowIs w.heap.size 3 (xs.length + 64) (fun j => .int .i64 (if j < k + 1 then wdI xs j else 0)) ∧ Below w.heap.size w (wr.setCell ⟨w.heap.size, k, none⟩ (.int .i64 x))) := fun x hx => by
        refine ⟨(HW.out.1.set k _).congr fun j hj => ?_, HW.out.2.setCell (Nat.le_refl _) _⟩
        by_cases e : j = k
        · subst e; rw [if_pos rfl, if_pos (by omega), hx]
        · rw [if_neg e]
          by_cases e2 : j < k
          · rw [if_pos e2, if_pos (by omega)]
          · rw [if_neg e2, if_neg (by omega)]
      by_cases hlx : k < xs.length
      · rcases HX3.out with h3 | ⟨b, off, rfl, h3⟩
        · subst h3; simp at hlx
        · have hc := (HW.out.2.cell (World.block_lt_of_cell? w _ (h3 k hlx))).trans (h3 k hlx)
          have hbB : b < w.heap.size := World.block_lt_of_cell? w _ (h3 k hlx)
          have hne : ¬ b = w.heap.size := by omega
          have hne' : ¬ w.heap.size = b := by omega
          have hkx : (k : Int) < (xs.length : Int) := by omega
          have HY : Hid (xs[k] = wdI xs k) := by show _ = _; unfold wdI; rw [if_pos hlx, List.getD_eq_getElem?_getD, List.getElem?_eq_getElem hlx]; rfl
          have HS2 := HS.out _ HY.out
          have HS3 : Hid _ := HS2
          clear h3 HS HS2 HW HY
          generalize xs[k] = x at *
          go_wp2
          go_roundw
          case rel => exact ⟨k + 1, by omega, by go_num, HS3.out⟩
          case measure => simp [intOf]; omega
      · have hkx : ¬ (k : Int) < (xs.length : Int) := by omega
        have HS2 := HS.out (-3000000 - (k : Int)) (by unfold wdI; rw [if_neg hlx])
        have HS3 : Hid _ := HS2
        clear HS HS2 HW
        go_wp2
        go_roundw
        case rel => exact ⟨k + 1, by omega, by go_num, HS3.out⟩
        case measure => simp [intOf]; omega
    · obtain rfl : k = xs.length + 64 := by omega
      have HF : Hid (WdQ wr w.heap.size xs.length (wdI xs) ∧ Below w.heap.size w wr) := ⟨⟨HW.out.1.congr fun j hj => by rw [if_pos hj], by omega⟩, HW.out.2⟩
      clear HW
      go_wp2
      all_goals (go_ret; exact ⟨rfl, HF.out⟩)

/-- The marks stand. -/
theorem spareInts_any {w : World} {g n : Nat} {f : Nat → Int} (h : WdQ w g n f) (hs : ∀ j, n ≤ j → f j = -3000000 - j) :
    Calls Tryz.prog 18 #[.slice (some ⟨g, 0, none⟩) n (n + 64)] w fun e w' => e = .returned (.bool true) ∧ w' = w := by
  have HO : Hid (w.rowIs g 3 (n + 64) (fun j => .int .i64 (f j))) := h.row
  have HP : Hid (∀ j, n ≤ j → f j = -3000000 - j) := hs
  have hn := h.few
  have hz := h.row.lt
  clear h hs
  go_enter Tryz.func18, Tryz.ntmps18
  go_wp2
  go_loop [4] (fun i => ∃ k : Nat, n ≤ k ∧ k ≤ n + 64 ∧ i = .int .i64 k) (fun i => n + 64 - (intOf i).toNat)
  case atStart => exact ⟨n, by omega, by omega, rfl⟩
  case round =>
    obtain ⟨k, hk0, hk1, rfl⟩ := hrel
    by_cases hlt : k < n + 64
    · have hc := HO.out.cell (i := k) hlt
      rw [HP.out k hk0] at hc
      go_wp2
      go_round
      case rel => exact ⟨k + 1, by omega, by omega, by go_num⟩
      case measure => simp [intOf]; omega
    · go_wp2
      all_goals (go_ret; exact ⟨rfl, rfl⟩)

theorem eqIntsQ (v u : Value) (xs : List Int) (w : World) (h : SeesQ w v xs) (g : SeesQ w u xs) : Calls Tryz.prog 17 #[v, u] w fun e w' => e = .returned (.bool true) ∧ Below w.heap.size w w' := by
  obtain ⟨ao, cap, rfl, h1, h2, h3⟩ := h
  obtain ⟨bo, cap', rfl, h4, h5, h6⟩ := g
  unfold maxLen at h2 h5
  have H3 : Hid (xs = [] ∨ ∃ b off, ao = some ⟨b, off, none⟩ ∧ ∀ (i : Nat) (h : i < xs.length), w.cell? ⟨b, off + i, none⟩ = some (.int .i64 xs[i])) := h3
  have H6 : Hid (xs = [] ∨ ∃ b off, bo = some ⟨b, off, none⟩ ∧ ∀ (i : Nat) (h : i < xs.length), w.cell? ⟨b, off + i, none⟩ = some (.int .i64 xs[i])) := h6
  clear h3 h6
  have hne : ((xs.length : Int) != (xs.length : Int)) = false := by simp
  go_enter Tryz.func17, Tryz.ntmps17
  go_wp2
  go_loopw [5] (fun i wr => ∃ k : Nat, k ≤ xs.length ∧ i = .int .i64 k ∧ Hid (Below w.heap.size w wr)) (fun i _ => xs.length - (intOf i).toNat)
  case atStart => exact ⟨0, Nat.zero_le _, rfl, Below.refl _ _⟩
  case round =>
    obtain ⟨k, hk, rfl, HW⟩ := hrel
    by_cases hlt : k < xs.length
    · rcases H3.out with q | ⟨b, off, rfl, h3⟩
      · subst q; simp at hlt
      rcases H6.out with q | ⟨b', off', rfl, h6⟩
      · subst q; simp at hlt
      have c1 : wr.cell? ⟨b, off + k, none⟩ = some (.int .i64 xs[k]) := (HW.out.cell (World.block_lt_of_cell? w _ (h3 k hlt))).trans (h3 k hlt)
      have c2 : wr.cell? ⟨b', off' + k, none⟩ = some (.int .i64 xs[k]) := (HW.out.cell (World.block_lt_of_cell? w _ (h6 k hlt))).trans (h6 k hlt)
      have k0 : (0 : Int) ≤ (k : Int) := by omega
      have k1 : (k : Int) < (xs.length : Int) := by omega
      clear h3 h6
      generalize xs[k] = x at *
      have hxx : (x != x) = false := by simp
      go_wp2
      go_quiet (fail)
      go_wp2
      go_roundw
      case rel => exact ⟨k + 1, by omega, by go_num, ⟨HW.out.os, HW.out.tape, HW.out.output, HW.out.size, HW.out.block⟩⟩
      case measure => simp [intOf]; omega
    · obtain rfl : k = xs.length := by omega
      go_wp2
      all_goals (go_ret; exact ⟨rfl, HW.out⟩)

end Go.Proofs.YtdhnbgeijfgfaaaGreatDoor
