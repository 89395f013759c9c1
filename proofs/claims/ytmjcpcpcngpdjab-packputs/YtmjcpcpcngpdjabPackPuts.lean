/- PackPuts of the statements of layer 1 answers true for all bytes and all lists of whole numbers: PutList puts how many there are and the eight bytes of each behind what the Writer has, and the list stays. No condition. -/
import Derived.Test.YtmjcpcpcngpdjabRows
import Derived.Test.YtmjcpcpcngpdjabShell
import Derived.Test.YtmjcpcpcngpdjabPutList
import Derived.Deep.QuietTactic
import Derived.BigQuiet
namespace Go.Proofs.Ytmjcpcpcngpdjab
open Go.ChangeShapes Go.WideShapes Go.ChangeAt Go.RowKit
namespace packPuts
set_option linter.unusedVariables false

theorem Try.infoI : (Try.prog.info? 2).map (fun i => (i.zero, i.size, i.bytes)) = some (some (.int .i64 0), 1, 8) := by kernel_rfl

theorem seesI_row {w : World} {a : Option Addr} {len cap : Nat} {zs : List Int} (h : IsRow .i64 w a len cap zs) : ∃ xs, xs.length = len ∧ SeesI w (.slice a len cap) xs ∧ ∀ x ∈ xs, -9223372036854775808 ≤ x ∧ x ≤ 9223372036854775807 := by
  rcases h with ⟨rfl, rfl, rfl, rfl⟩ | ⟨x, rfl, h1, h2, h3, h4, h5⟩
  · exact ⟨[], rfl, ⟨none, 0, rfl, Nat.le_refl _, by unfold maxLen; omega, .inl rfl⟩, fun x hx => by simp at hx⟩
  · have hl : (zs.take len).length = len := by simp; omega
    refine ⟨zs.take len, hl, ⟨some x, cap, by rw [hl], by omega, h2, ?_⟩, ?_⟩
    · by_cases h0 : len = 0
      · subst h0; exact .inl (by simp)
      · obtain ⟨b, off, spot⟩ := x
        have hc := h4 0 (by omega)
        have hspot : spot = none := by simpa [Addr.add] using World.cell?_spot hc
        subst hspot
        refine .inr ⟨b, off, rfl, fun i hi => ?_⟩
        have := h4 i (by omega)
        rw [addr_add] at this
        rw [this]
        have hi' : i < len := by omega
        simp [List.getD_eq_getElem?_getD, hi']
    · intro x hx
      have := h5 x (List.mem_of_mem_take hx)
      exact bounds_i64 this

/-- The slice value v owns a row of int64 numbers. -/
abbrev OwnsI (w : World) (base : Nat) (v : Value) (xs : List Int) : Prop := w.ownsRow base 2 1 v xs.length (xs.map (Value.int .i64))

theorem ownsI_cell {w : World} {base g cap : Nat} {xs : List Int} (h : OwnsI w base (.slice (some ⟨g, 0, none⟩) xs.length cap) xs) (k : Nat) (hk : k < xs.length) : w.cell? ⟨g, k, none⟩ = some (.int .i64 (xs.getD k 0)) := by
  rw [h.cellAt k (by omega)]
  simp [hk, List.getD_eq_getElem?_getD]

theorem ownsI_set {w : World} {base g cap : Nat} {xs : List Int} (h : OwnsI w base (.slice (some ⟨g, 0, none⟩) xs.length cap) xs) (k : Nat) (x : Int) :
    OwnsI (w.setCell ⟨g, k, none⟩ (.int .i64 x)) base (.slice (some ⟨g, 0, none⟩) (xs.set k x).length cap) (xs.set k x) := by
  have h1 := (h.stored k (.int .i64 x)).1
  simpa [OwnsI, List.map_set] using h1

theorem madeI_owns {w : World} {g n : Nat} (h : w.ownsRow g 2 1 (.slice (some ⟨g, 0, none⟩) n n) n (madeCells #[Value.int .i64 0] n).toList) : OwnsI w g (.slice (some ⟨g, 0, none⟩) (List.replicate n (0 : Int)).length n) (List.replicate n 0) := by
  have e : (madeCells #[Value.int .i64 0] n).toList = (List.replicate n (0 : Int)).map (Value.int .i64) := by
    rw [toList_madeCells_one]; simp
  rw [e] at h
  simpa [OwnsI] using h

theorem ownsI_kept {w w' : World} {S : Nat → Prop} {base : Nat} {v : Value} {xs : List Int} (h : OwnsI w base v xs) (hk : Kept w w' S) (hn : ∀ k, v.ownBlock = some k → ¬ S k) : OwnsI w' base v xs := by
  refine ⟨h.1, ?_⟩
  rcases h.2 with h | ⟨g, cap, cur, rfl, h1, h2, h3⟩
  · exact .inl h
  · exact .inr ⟨g, cap, cur, rfl, h1, hk.heap h2 (hn g rfl), h3⟩

theorem seesI_prefix {w : World} {base g cap n : Nat} {zs : List Int} (h : OwnsI w base (.slice (some ⟨g, 0, none⟩) zs.length cap) zs) (hn : n ≤ zs.length) : SeesI w (.slice (some ⟨g, 0, none⟩) n cap) (zs.take n) := by
  have hl : (zs.take n).length = n := by simp; omega
  rcases h.2 with ⟨h1, _⟩ | ⟨g', c, cur, e, _, h2, h3, h4, _⟩
  · simp at h1
  · simp only [Value.slice.injEq, Option.some.injEq, Addr.mk.injEq, and_true, true_and] at e
    obtain ⟨rfl, rfl⟩ := e
    refine ⟨_, cap, by rw [hl], by omega, h4, .inr ⟨g, 0, rfl, fun i hi => ?_⟩⟩
    rw [Nat.zero_add, ownsI_cell h i (by omega)]
    have hi' : i < n := by omega
    simp [List.getD_eq_getElem?_getD, hi']

/-- The list with 16 marks behind it. -/
def wideI (l : List Int) : List Int := l ++ List.replicate 16 (-77)
theorem wideI_len (l : List Int) : (wideI l).length = l.length + 16 := by simp [wideI]
theorem wideI_lo (l : List Int) (k : Nat) (h : k < l.length) : (wideI l).getD k 0 = l.getD k 0 := by simp [wideI, List.getD_eq_getElem?_getD, List.getElem?_append, h]
theorem wideI_hi (l : List Int) (k : Nat) (h : l.length ≤ k) (h' : k < l.length + 16) : (wideI l).getD k 0 = -77 := by
  have h2 : k - l.length < 16 := by omega
  unfold wideI
  rw [List.getD_eq_getElem?_getD, List.getElem?_append_right h, List.getElem?_replicate, if_pos h2]; rfl
theorem wideI_take (l : List Int) : (wideI l).take l.length = l := by simp [wideI]

/-- A round of the loop that lays the list: one store. -/
theorem fill1 {g k n : Nat} {w4 wr : World} {l zs : List Int} (hzl : zs.length = n) (hk : k < n) (x : Int) (hx : x = l.getD k 0)
    (hown : OwnsI wr g (.slice (some ⟨g, 0, none⟩) zs.length n) zs) (hpt : ∀ j, j < k → zs.getD j 0 = l.getD j 0) (hkp : Kept w4 wr (· = g)) :
    ∃ zs' : List Int, zs'.length = n ∧ OwnsI (wr.setCell ⟨g, k, none⟩ (.int .i64 x)) g (.slice (some ⟨g, 0, none⟩) zs'.length n) zs' ∧
      (∀ j, j < k + 1 → zs'.getD j 0 = l.getD j 0) ∧ Kept w4 (wr.setCell ⟨g, k, none⟩ (.int .i64 x)) (· = g) := by
  refine ⟨zs.set k x, by simpa using hzl, ownsI_set hown k x, fun j hj => ?_, hkp.setCell _ _ (fun _ => rfl)⟩
  rw [nth_set zs k j x (by omega)]
  by_cases h : j = k
  · rw [if_pos h, h, hx]
  · rw [if_neg h]; exact hpt j (by omega)

theorem fill2 {g k n : Nat} {w4 wr : World} {l zs : List Int} (hzl : zs.length = n) (hk : k < n) (y x : Int) (hx : x = l.getD k 0)
    (hown : OwnsI wr g (.slice (some ⟨g, 0, none⟩) zs.length n) zs) (hpt : ∀ j, j < k → zs.getD j 0 = l.getD j 0) (hkp : Kept w4 wr (· = g)) :
    ∃ zs' : List Int, zs'.length = n ∧ OwnsI ((wr.setCell ⟨g, k, none⟩ (.int .i64 y)).setCell ⟨g, k, none⟩ (.int .i64 x)) g (.slice (some ⟨g, 0, none⟩) zs'.length n) zs' ∧
      (∀ j, j < k + 1 → zs'.getD j 0 = l.getD j 0) ∧ Kept w4 ((wr.setCell ⟨g, k, none⟩ (.int .i64 y)).setCell ⟨g, k, none⟩ (.int .i64 x)) (· = g) := by
  refine fill1 (zs := zs.set k y) (by simpa using hzl) hk x hx (ownsI_set hown k y) (fun j hj => ?_) (hkp.setCell _ _ (fun _ => rfl))
  rw [nth_set zs k j y (by omega), if_neg (by omega)]; exact hpt j hj

theorem SeesI.lt {w : World} {v : Value} {xs : List Int} (h : SeesI w v xs) (hx : xs ≠ []) : ∀ j, v.ownBlock = some j → j < w.heap.size := by
  intro j hj
  obtain ⟨ao, cap, rfl, _, _, h3⟩ := h
  rcases h3 with h3 | ⟨b, off, rfl, h3⟩
  · exact absurd h3 hx
  · simp [Value.ownBlock] at hj
    subst hj
    have := World.block_lt_of_cell? w _ (h3 0 (List.length_pos_iff.2 hx))
    simpa using this

theorem SeesI.below {B : Nat} {w w' : World} {v : Value} {xs : List Int} (h : SeesI w v xs) (hb : Below B w w') (hB : w.heap.size ≤ B) : SeesI w' v xs := by
  obtain ⟨ao, cap, rfl, h1, h2, h3⟩ := h
  refine ⟨ao, cap, rfl, h1, h2, ?_⟩
  rcases h3 with h3 | ⟨b, off, rfl, h3⟩
  · exact .inl h3
  · refine .inr ⟨b, off, rfl, fun i hi => cell_later (h3 i hi) hb hB⟩

theorem seesI_shape {w : World} {a : Option Addr} {n c : Nat} {xs : List Int} (h : SeesI w (.slice a n c) xs) : n ≤ c ∧ c ≤ 9223372036854775807 ∧ xs.length = n := by
  obtain ⟨ao, cap, e, h1, h2, h3⟩ := h
  simp at e
  obtain ⟨rfl, rfl, rfl⟩ := e
  unfold maxLen at h2
  exact ⟨h1, by omega, rfl⟩

theorem sees_shape' {w : World} {a : Option Addr} {n c : Nat} {xs : List Int} (h : Sees w (.slice a n c) xs) : n ≤ c ∧ c ≤ 9223372036854775807 ∧ xs.length = n := by
  obtain ⟨ao, cap, e, h1, h2, _, h3⟩ := h
  simp at e
  obtain ⟨rfl, rfl, rfl⟩ := e
  unfold maxLen at h2
  exact ⟨h1, by omega, rfl⟩

theorem nth_bd {l : List Int} (h : ∀ x ∈ l, -9223372036854775808 ≤ x ∧ x ≤ 9223372036854775807) (k : Nat) : -9223372036854775808 ≤ l.getD k 0 ∧ l.getD k 0 ≤ 9223372036854775807 := by
  by_cases hk : k < l.length
  · rw [List.getD_eq_getElem?_getD, List.getElem?_eq_getElem hk]; exact h _ (List.getElem_mem hk)
  · rw [List.getD_eq_getElem?_getD, List.getElem?_eq_none (by omega)]; simp

set_option maxRecDepth 100000 in
set_option maxHeartbeats 1000000 in
theorem walk (a0 : Option Addr) (len0 cap0 : Nat) (z0 : List Int) (a1 : Option Addr) (len1 cap1 : Nat) (z1 : List Int) (w : World) (w0 : IsRow .u8 w a0 len0 cap0 z0) (w1 : IsRow .i64 w a1 len1 cap1 z1) :
    Calls Try.prog 3 #[.slice a0 len0 cap0, .slice a1 len1 cap1] w fun e w' => e = .returned (.bool true) ∧ Below w.heap.size w w' := by
  obtain ⟨xs, hl, hs, hb⟩ := sees_row w0
  obtain ⟨l, hl', hs', hb'⟩ := seesI_row w1
  clear w0 w1 z0 z1
  subst hl hl'
  have HS : Hid (Sees w (.slice a0 xs.length cap0) xs ∧ Byts xs ∧ SeesI w (.slice a1 l.length cap1) l ∧ ∀ x ∈ l, -9223372036854775808 ≤ x ∧ x ≤ 9223372036854775807) := ⟨hs, hb, hs', hb'⟩
  have hq0 := sees_shape' hs
  have hq1 := seesI_shape hs'
  have q1 := hq0.1
  have q2 := hq0.2.1
  have q3 := hq1.1
  have q4 := hq1.2.1
  clear hs hb hs' hb' hq0 hq1
  by_cases hbig : 67108864 < xs.length
  · go_enter Try.func3, Try.ntmps3
    go_wp2_with fail
    refine (works_any _).mono ?_
    rintro e w1 ⟨rfl, hb1⟩
    have HB1 : Hid (Below w.heap.size w w1) := hb1
    clear hb1
    go_wp2
    go_ret
    exact ⟨rfl, HB1.out⟩
  by_cases hbig2 : 4194304 < l.length
  · go_enter Try.func3, Try.ntmps3
    go_wp2_with fail
    refine (works_any _).mono ?_
    rintro e w1 ⟨rfl, hb1⟩
    have HB1 : Hid (Below w.heap.size w w1) := hb1
    clear hb1
    go_wp2
    go_ret
    exact ⟨rfl, HB1.out⟩
  have hd1 : decide ((67108864 : Int) < (xs.length : Int)) = false := by simp; omega
  have hd2 : decide ((4194304 : Int) < (l.length : Int)) = false := by simp; omega
  have hnn : xs.length ≤ 67108864 := by omega
  have hnl : l.length ≤ 4194304 := by omega
  clear hbig hbig2
  obtain ⟨i0, hi, hz0, hz1, hz2⟩ := info_parts Try.infoI
  go_enter Try.func3, Try.ntmps3
  go_wp2_with fail
  refine (works_any _).mono ?_
  rintro e w1 ⟨rfl, hb1⟩
  have hz1' := hb1.size
  have HB1 : Hid (Below w.heap.size w w1) := hb1
  have HS1 : Hid (Sees w1 (.slice a0 xs.length cap0) xs ∧ SeesI w1 (.slice a1 l.length cap1) l) := ⟨HS.out.1.below hb1 (Nat.le_refl _), SeesI.below HS.out.2.2.1 hb1 (Nat.le_refl _)⟩
  clear hb1
  go_wp2_with fail
  refine (copyBytes_any _ xs _ (by exact HS1.out.1.below ((Below.refl w1.heap.size w1).alloc (Nat.le_refl _) _) (Nat.le_refl _)) (by omega)).mono ?_
  rintro e w2 ⟨v2, rfl, ho2, hb2⟩
  have hW2 : IsW w2 w1.heap.size (.slice none 0 0) [] := IsW.kept (w := w1.alloc (.cells #[.slice none 0 0] 27)) ⟨heap_alloc_new _ _, World.ownsRow_nil _ _ _ _⟩ (Below.kept hb2) (by simp) (fun k hk => by simp [Value.ownBlock] at hk)
  have hb2' : Below w1.heap.size w1 w2 := ((Below.refl w1.heap.size w1).alloc (Nat.le_refl _) _).trans (hb2.mono (by simp))
  have HW2 : Hid (IsW w2 w1.heap.size (.slice none 0 0) [] ∧ Sees w2 v2 xs ∧ Below w1.heap.size w1 w2) := ⟨hW2, Sees.own ho2, hb2'⟩
  clear ho2 hb2 hb2' hW2
  go_wp2_with fail
  refine (wRaw_any w1.heap.size _ v2 [] xs _ HW2.out.1 HW2.out.2.1 (by simp; omega)).mono ?_
  rintro e w3 ⟨rfl, hp⟩
  obtain ⟨v3, hW3, hN3, hK3⟩ := hp
  rw [List.nil_append] at hW3
  have HB3 : Hid (Below w1.heap.size w1 w3) := HW2.out.2.2.trans (below_writer hK3 HW2.out.2.2.size (Nat.le_refl _) (fun k hk => by simp [Value.ownBlock] at hk))
  have HW3 : Hid (IsW w3 w1.heap.size v3 xs) := hW3
  have HV3 : Hid (∀ k, v3.ownBlock = some k → w1.heap.size ≤ k) := fun k hk => by
    rcases hN3 with e | ⟨j, e, hj⟩
    · rw [e] at hk; simp [Value.ownBlock] at hk
    · rw [e] at hk; simp at hk; have := HW2.out.2.2.size; omega
  clear hW3 hN3 hK3 HW2
  go_wp2_with (at_make; refine wpList_make_full _ rfl _ _ 23 rfl w3.heap.size 2 i0 (.int .i64 0) 1 Try.underlying23 hi hz0 hz1 .i64 .i64 _ _ (l.length + 16) rfl rfl (by omega) (by omega) (by rw [hz2]; omega) (by unfold maxLen; omega) (Nat.le_refl _) ?_)
  intro w4 hown0 hgrow0
  have hown1 := madeI_owns hown0
  have hk4 : Kept w3 w4 (fun _ => False) := (Kept.refl w3 _).grown hgrow0 (fun k _ hk => by simp at hk)
  have HO4 : Hid (OwnsI w4 w3.heap.size (.slice (some ⟨w3.heap.size, 0, none⟩) (List.replicate (l.length + 16) (0 : Int)).length (l.length + 16)) (List.replicate (l.length + 16) 0)) := hown1
  have hW4 := HW3.out.kept hk4 (fun h => h) (fun _ _ h => h)
  have hlt3 : w1.heap.size < w3.heap.size := lt_of_block HW3.out.1
  have hlv3 : ∀ k, v3.ownBlock = some k → k < w3.heap.size := fun k hk => (HW3.out.2.lt k hk).2
  have hb4 : Below w1.heap.size w1 w4 := HB3.out.trans (hk4.below HB3.out.size (fun _ h => h.elim))
  have HF4 : Hid (IsW w4 w1.heap.size v3 xs ∧ (∀ k, v3.ownBlock = some k → k < w3.heap.size) ∧ Below w1.heap.size w1 w4 ∧ Sees w4 (.slice a0 xs.length cap0) xs ∧ SeesI w4 (.slice a1 l.length cap1) l) :=
    ⟨hW4, hlv3, hb4, HS1.out.1.below hb4 (Nat.le_refl _), SeesI.below HS1.out.2 hb4 (Nat.le_refl _)⟩
  have hz34 := hk4.size
  clear hown0 hgrow0 hown1 hk4 hW4 hlv3 hb4 HW3 HB3
  go_wp2
  go_loopw [8] (fun i wr => ∃ (k : Nat) (zs : List Int), k ≤ l.length + 16 ∧ i = .int .i64 k ∧ zs.length = l.length + 16 ∧ OwnsI wr w3.heap.size (.slice (some ⟨w3.heap.size, 0, none⟩) zs.length (l.length + 16)) zs ∧ (∀ j, j < k → zs.getD j 0 = (wideI l).getD j 0) ∧ Kept w4 wr (· = w3.heap.size)) (fun i _ => l.length + 16 - (intOf i).toNat)
  case atStart => exact ⟨0, _, Nat.zero_le _, rfl, by simp, HO4.out, fun j hj => by omega, Kept.refl _ _⟩
  case round =>
    clear HO4
    obtain ⟨k, zs, hk, rfl, hzl, hown, hpt, hkp⟩ := hrel
    have HZ : Hid (zs.length = l.length + 16 ∧ OwnsI wr w3.heap.size (.slice (some ⟨w3.heap.size, 0, none⟩) zs.length (l.length + 16)) zs ∧ (∀ j, j < k → zs.getD j 0 = (wideI l).getD j 0) ∧ Kept w4 wr (· = w3.heap.size)) := ⟨hzl, hown, hpt, hkp⟩
    clear hpt hzl
    by_cases hlt : k < l.length + 16
    · have hcz := ownsI_cell hown k (by rw [HZ.out.1]; omega)
      have hfz := hown.frozenAt k
      clear hown
      by_cases hlx : k < l.length
      · have hsee := SeesI.kept HF4.out.2.2.2.2 hkp (fun b hb hs => by
          have := SeesI.lt HS1.out.2 (by intro e; rw [e] at hlx; simp at hlx) b hb
          omega)
        obtain ⟨ao', cap', e, _, _, h3⟩ := hsee
        simp at e
        obtain ⟨rfl, rfl⟩ := e
        rcases h3 with h3 | ⟨b, off, rfl, h3⟩
        · subst h3; simp at hlx
        · have hc := h3 k hlx
          have hbB : b < w1.heap.size := SeesI.lt HS1.out.2 (by intro e; rw [e] at hlx; simp at hlx) b rfl
          have hne : ¬ b = w3.heap.size := by omega
          have hne' : ¬ w3.heap.size = b := by omega
          have HX : Hid (l.getD k 0 = (wideI l).getD k 0) := (wideI_lo l k hlx).symm
          clear h3 hkp
          generalize l.getD k 0 = x at *
          go_wp2
          obtain ⟨zs', r1, r2, r3, r4⟩ := fill2 HZ.out.1 hlt (-77) x HX.out HZ.out.2.1 HZ.out.2.2.1 HZ.out.2.2.2
          go_roundw
          case rel => exact ⟨k + 1, zs', by omega, by go_num, r1, r2, r3, r4⟩
          case measure => simp [intOf]; omega
      · have HX : Hid (-77 = (wideI l).getD k 0) := (wideI_hi l k (by omega) hlt).symm
        clear hkp
        go_wp2
        obtain ⟨zs', r1, r2, r3, r4⟩ := fill1 HZ.out.1 hlt (-77) HX.out HZ.out.2.1 HZ.out.2.2.1 HZ.out.2.2.2
        go_roundw
        case rel => exact ⟨k + 1, zs', by omega, by go_num, r1, r2, r3, r4⟩
        case measure => simp [intOf]; omega
    · have he : zs = wideI l := list_of_nths (by rw [HZ.out.1, wideI_len]) (fun j hj => HZ.out.2.2.1 j (by have := HZ.out.1; omega))
      have HO5 : Hid (OwnsI wr w3.heap.size (.slice (some ⟨w3.heap.size, 0, none⟩) (wideI l).length (l.length + 16)) (wideI l)) := by
        have := HZ.out.2.1
        rw [he] at this
        exact this
      have HF5 : Hid (IsW wr w1.heap.size v3 xs ∧ (∀ k, v3.ownBlock = some k → k < w3.heap.size) ∧ Below w1.heap.size w1 wr ∧ Kept w4 wr (· = w3.heap.size)) :=
        ⟨HF4.out.1.kept hkp (by omega) (fun b hb hs => by have := HF4.out.2.1 b hb; omega), HF4.out.2.1, HF4.out.2.2.1.trans (hkp.below (by have := HF4.out.2.2.1.size; omega) (fun b hb => by omega)), hkp⟩
      clear he HZ hown hkp HF4
      go_wp2_with fail
      have hpre := seesI_prefix HO5.out (n := l.length) (by rw [wideI_len]; omega)
      rw [wideI_take] at hpre
      refine (putList_any w1.heap.size v3 _ xs l _ HF5.out.1 hpre (by omega) (by omega) (fun b hb => ?_)).mono ?_
      · simp [Value.ownBlock] at hb
        subst hb
        refine ⟨by omega, fun e => ?_, ?_⟩
        · have := HF5.out.2.1 _ e; omega
        · have := HF5.out.2.2.2.size; have := hz34; have := (HO5.out.lt w3.heap.size rfl).2; omega
      clear hpre
      rintro e w5 ⟨rfl, hp⟩
      obtain ⟨v5, hW5, _, hK5⟩ := hp
      have hb5 : Below w1.heap.size w1 w5 := HF5.out.2.2.1.trans (below_writer hK5 HF5.out.2.2.1.size (Nat.le_refl _) HV3.out)
      have HI5 : Hid (OwnsI w5 w3.heap.size (.slice (some ⟨w3.heap.size, 0, none⟩) (wideI l).length (l.length + 16)) (wideI l)) := ownsI_kept HO5.out hK5 (fun b hb hs => by
        simp [Value.ownBlock] at hb
        subst hb
        rcases hs with hs | hs
        · omega
        · have := HF5.out.2.1 _ hs; omega)
      have HF : Hid (IsW w5 w1.heap.size v5 (xs ++ be4 l.length ++ listBytes l) ∧ Below w1.heap.size w1 w5 ∧ Sees w5 (.slice a0 xs.length cap0) xs ∧ SeesI w5 (.slice a1 l.length cap1) l ∧ Below w.heap.size w w5) :=
        ⟨hW5, hb5, HS1.out.1.below hb5 (Nat.le_refl _), SeesI.below HS1.out.2 hb5 (Nat.le_refl _), HB1.out.trans (hb5.mono hz1')⟩
      clear hW5 hK5 hb5 HO5 HF5 HV3
      go_wp2_with fail
      refine (refInt32_any l.length _ (by omega) (by omega)).mono ?_
      rintro e w6 ⟨v6, rfl, ho6, hb6⟩
      rw [show up32 (l.length : Int) = l.length by unfold up32; omega] at ho6
      have HB6 : Hid (Owns w6 w5.heap.size v6 (be4 l.length) ∧ Below w5.heap.size w5 w6) := ⟨ho6, hb6⟩
      clear ho6 hb6
      go_wp2_with fail
      refine (joined_any _ v6 xs (be4 l.length) _ (HF.out.2.2.1.below HB6.out.2 (Nat.le_refl _)) (Sees.own HB6.out.1) (by simp [be4]; omega)).mono ?_
      rintro e w7 ⟨v7, rfl, ho7, hb7⟩
      have HB7 : Hid (Owns w7 0 v7 (xs ++ be4 l.length) ∧ Below w5.heap.size w5 w7) := ⟨owns_mono ho7 (Nat.zero_le _), HB6.out.2.trans (hb7.mono HB6.out.2.size)⟩
      clear ho7 hb7 HB6
      go_wp2
      go_loopw [9, 10] (fun v i wr => ∃ k : Nat, k ≤ l.length ∧ i = .int .i64 k ∧ Owns wr 0 v (xs ++ be4 l.length ++ listBytes (l.take k)) ∧ Below w5.heap.size w5 wr) (fun _ i _ => l.length - (intOf i).toNat)
      case atStart => exact ⟨0, Nat.zero_le _, rfl, by simpa [listBytes] using HB7.out.1, HB7.out.2⟩
      case round =>
        clear HB7
        obtain ⟨k, hk, rfl, hown, hbel⟩ := hrel
        have HO : Hid (Owns wr 0 u9 (xs ++ be4 l.length ++ listBytes (l.take k)) ∧ Below w5.heap.size w5 wr) := ⟨hown, hbel⟩
        clear hown
        by_cases hlt : k < l.length
        · obtain ⟨ao', cap', e, _, _, h3⟩ := SeesI.below HF.out.2.2.2.1 hbel (Nat.le_refl _)
          simp at e
          obtain ⟨rfl, rfl⟩ := e
          rcases h3 with h3 | ⟨b, off, rfl, h3⟩
          · subst h3; simp at hlt
          · have hc := h3 k hlt
            have hx := nth_bd HS.out.2.2.2 k
            have HT : Hid (listBytes (l.take (k + 1)) = listBytes (l.take k) ++ be8 (up64 (l.getD k 0))) := listBytes_next l k hlt
            have HL : Hid ((listBytes (l.take k)).length ≤ 8 * k) := listBytes_len_le l k
            clear h3 hbel
            generalize l.getD k 0 = x at *
            go_wp2_with fail
            refine (refInt64_any x _ hx.1 hx.2).mono ?_
            rintro e w8 ⟨v8, rfl, ho8, hb8⟩
            have HB8 : Hid (Owns w8 wr.heap.size v8 (be8 (up64 x)) ∧ Below wr.heap.size wr w8) := ⟨ho8, hb8⟩
            clear ho8 hb8
            go_wp2_with fail
            refine (joined_any _ v8 _ (be8 (up64 x)) _ ((Sees.own HO.out.1).below HB8.out.2 (Nat.le_refl _)) (Sees.own HB8.out.1) (by have := HL.out; simp [be8, be4]; omega)).mono ?_
            rintro e w9 ⟨v9, rfl, ho9, hb9⟩
            rw [List.append_assoc, ← HT.out] at ho9
            have hz5 := HO.out.2.size
            have HB9 : Hid (Owns w9 0 v9 (xs ++ be4 l.length ++ listBytes (l.take (k + 1))) ∧ Below w5.heap.size w5 w9) :=
              ⟨owns_mono ho9 (Nat.zero_le _), (HO.out.2.trans (HB8.out.2.mono hz5)).trans (hb9.mono (by have := HB8.out.2.size; omega))⟩
            clear ho9 hb9 HB8 HO
            go_wp2
            go_roundw
            case rel => exact ⟨k + 1, by omega, by go_num, HB9.out.1, HB9.out.2⟩
            case measure => simp [intOf]; omega
        · obtain rfl : k = l.length := by omega
          have ho := HO.out.1
          rw [List.take_length] at ho
          have HB9 : Hid (Owns wr 0 u9 (xs ++ be4 l.length ++ listBytes l) ∧ Below w5.heap.size w5 wr) := ⟨ho, hbel⟩
          clear ho HO hbel
          obtain ⟨w10, hw10⟩ : ∃ w10 : World, w10 = wr := ⟨_, rfl⟩
          have HW10 : Hid (w10 = wr) := hw10
          clear hw10
          go_wp2
          go_loopw [11] (fun i wx => ∃ k m : Nat, k ≤ l.length + 16 ∧ i = .int .i64 k ∧ wx = w10.drewN m) (fun i _ => l.length + 16 - (intOf i).toNat)
          case atStart => exact ⟨0, 0, Nat.zero_le _, rfl, by rw [HW10.out]; rfl⟩
          case round =>
            rw [← HW10.out] at HB9
            clear HW10
            obtain ⟨k, m, hk, rfl, rfl⟩ := hrel
            have HI10 : Hid (OwnsI w10 w3.heap.size (.slice (some ⟨w3.heap.size, 0, none⟩) (wideI l).length (l.length + 16)) (wideI l)) := ownsI_kept HI5.out (Below.kept HB9.out.2) (fun b hb hs => by
              simp [Value.ownBlock] at hb
              subst hb
              have := (HI5.out.lt w3.heap.size rfl).2
              omega)
            by_cases hlt : k < l.length + 16
            · have hcz := ownsI_cell HI10.out k (by rw [wideI_len]; omega)
              by_cases hlx : k < l.length
              · rw [wideI_lo l k hlx] at hcz
                obtain ⟨ao', cap', e, _, _, h3⟩ := SeesI.below HF.out.2.2.2.1 HB9.out.2 (Nat.le_refl _)
                simp at e
                obtain ⟨rfl, rfl⟩ := e
                rcases h3 with h3 | ⟨b, off, rfl, h3⟩
                · subst h3; simp at hlx
                · have hc := h3 k hlx
                  have hk1 : decide ((k : Int) < (l.length : Int)) = true := by simp; omega
                  have hk2 : decide ((l.length : Int) ≤ (k : Int)) = false := by simp; omega
                  have hk3 : decide (k < l.length) = true := by simp; omega
                  have hk4 : decide (l.length ≤ k) = false := by simp; omega
                  clear h3
                  generalize l.getD k 0 = x at *
                  go_wp2
                  go_quiet (fail)
                  all_goals go_wp2
                  all_goals go_roundw
                  case rel => exact ⟨k + 1, _, by omega, by go_num, rfl⟩
                  case measure => simp [intOf]; omega
              · rw [wideI_hi l k (by omega) hlt] at hcz
                have hk1 : decide ((k : Int) < (l.length : Int)) = false := by simp; omega
                have hk2 : decide ((l.length : Int) ≤ (k : Int)) = true := by simp; omega
                have hk3 : decide (k < l.length) = false := by simp; omega
                have hk4 : decide (l.length ≤ k) = true := by simp; omega
                go_wp2
                go_quiet (fail)
                all_goals go_wp2
                all_goals go_roundw
                case rel => exact ⟨k + 1, _, by omega, by go_num, rfl⟩
                case measure => simp [intOf]; omega
            · have HW : Hid (IsW (w10.drewN m) w1.heap.size v5 (xs ++ be4 l.length ++ listBytes l) ∧ Sees (w10.drewN m) u9 (xs ++ be4 l.length ++ listBytes l) ∧ Below w.heap.size w (w10.drewN m)) := by
                have hk10 : Kept w10 (w10.drewN m) (fun _ => False) := (Kept.refl _ _).drewN _
                have hlW : w1.heap.size < w5.heap.size := lt_of_block HF.out.1.1
                have h1 : IsW w10 w1.heap.size v5 (xs ++ be4 l.length ++ listBytes l) := HF.out.1.kept (Below.kept HB9.out.2) (by omega) (fun b hb hs => by have := (HF.out.1.2.lt b hb).2; omega)
                refine ⟨h1.kept hk10 (fun h => h) (fun _ _ h => h), (Sees.own HB9.out.1).kept hk10 (fun _ _ h => h), ?_⟩
                exact (HF.out.2.2.2.2.trans (HB9.out.2.mono HF.out.2.2.2.2.size)).trans (hk10.below (by have := HF.out.2.2.2.2.size; have := HB9.out.2.size; omega) (fun _ h => h.elim))
              have HLEN : Hid ((xs ++ be4 l.length ++ listBytes l).length ≤ 140737488355328) := by
                have := listBytes_len l
                show _ ≤ _
                simp [be4] at this ⊢; omega
              clear HI10 HI5 HB9 HF
              generalize xs ++ be4 l.length ++ listBytes l = ws at *
              go_wp2_with fail
              refine (wBytes_any _ v5 ws _ HW.out.1 HLEN.out).mono ?_
              rintro e w11 ⟨v11, rfl, ho11, hb11⟩
              have HR : Hid (Sees w11 v11 ws ∧ Sees w11 u9 ws ∧ Below w.heap.size w w11) := ⟨Sees.own ho11, HW.out.2.1.below hb11 (Nat.le_refl _), HW.out.2.2.trans (hb11.mono HW.out.2.2.size)⟩
              clear ho11 hb11 HW
              go_wp2_with fail
              refine (eqBytes_any _ _ ws ws _ HR.out.1 HR.out.2.1).mono ?_
              rintro e w12 ⟨rfl, n12, rfl⟩
              have ed : decide (ws = ws) = true := by simp
              rw [ed]
              clear ed
              go_wp2
              go_ret
              exact ⟨rfl, below_drewN HR.out.2.2 _⟩

/-! ### THE ROW's STEP: WRITTEN OUT: LEAVE IT -/
set_option maxRecDepth 100000 in
theorem lifted (os : Os) (started : os.Started) (H : Type) (enc : TypeId × Value → H) :
    ReturnsInHanded {} Try.checked os 3 .any (Rows.packPutsSpec.pre6 enc Try.prog Try.f3 Rows.packPutsRow.domain false) (Rows.packPutsSpec.post enc Try.prog Try.f3 false true false false) := by
  refine returnsInHanded_of_change (C := Try.checked) Try.own started (by kernel_rfl) Try.func3
    (ChangeSpec.witness6 (enc := enc) (C := Try.checked) false ⟨#[], #[.slice none 0 0, .slice none 0 0], []⟩ 8 (by kernel_rfl) (by kernel_rfl) (by kernel_rfl) (by kernel_rfl)) ?_
  intro W base args ds gs before hval0 hW hcnd _
  have hval : ∀ (j : Nat) t v, Try.f3.params[j]? = some t → args[j]? = some v → Value.okWide Try.prog W .any base t v := hval0
  have hW' := hW
  obtain ⟨p, q, hA0, hV, rfl, hfz, hnd⟩ := hW
  have hA : DataW.TrodAll enc Try.prog W 0 (fun _ => true) true Try.f3.params.toList args.toList ds p := hA0
  rw [Try.params3] at hA hval
  obtain ⟨v0, vs0, d0, ds0, p0, q0, hargs, rfl, rfl, h0, r0⟩ := trodAll_cons hA
  obtain ⟨v1, vs1, d1, ds1, p1, q1, rfl, rfl, rfl, h1, r1⟩ := trodAll_cons r0
  obtain ⟨rfl, rfl, rfl⟩ := trodAll_nil r1
  obtain rfl : args = #[v0, v1] := by cases args; simp_all
  obtain ⟨rfl, rfl⟩ := trodVars_none hV
  obtain ⟨a0, len0, cap0, rfl⟩ := okWide_slice Try.underlying22 (hval 0 22 v0 rfl rfl)
  have k0 := h0
  have lt0 : ∀ x ∈ p0, x.block < W.heap.size := by obtain ⟨m, hm⟩ := k0; exact DataW.trod_lt m _ _ _ hm
  obtain ⟨z0, w0⟩ : ∃ zs, IsRow .u8 W a0 len0 cap0 zs := by
    obtain ⟨fuel, hf⟩ := h0
    rcases open_ints Try.underlying22 Try.underlying5 (by kernel_rfl) hf with ⟨hcs, _⟩ | ⟨x, l, c, zs, hcs, _, hl, hm, hz, _, hcell, hwz⟩
    · simp [Value.cells] at hcs
      obtain ⟨rfl, rfl, rfl⟩ := hcs
      exact ⟨[], .inl ⟨rfl, rfl, rfl, rfl⟩⟩
    · simp [Value.cells] at hcs
      obtain ⟨rfl, rfl, rfl⟩ := hcs
      exact ⟨zs, .inr ⟨_, rfl, hl, hm, by simpa using hz, hcell, hwz⟩⟩
  obtain ⟨a1, len1, cap1, rfl⟩ := okWide_slice Try.underlying23 (hval 1 23 v1 rfl rfl)
  have k1 := h1
  have lt1 : ∀ x ∈ p1, x.block < W.heap.size := by obtain ⟨m, hm⟩ := k1; exact DataW.trod_lt m _ _ _ hm
  obtain ⟨z1, w1⟩ : ∃ zs, IsRow .i64 W a1 len1 cap1 zs := by
    obtain ⟨fuel, hf⟩ := h1
    rcases open_ints Try.underlying23 Try.underlying2 (by kernel_rfl) hf with ⟨hcs, _⟩ | ⟨x, l, c, zs, hcs, _, hl, hm, hz, _, hcell, hwz⟩
    · simp [Value.cells] at hcs
      obtain ⟨rfl, rfl, rfl⟩ := hcs
      exact ⟨[], .inl ⟨rfl, rfl, rfl, rfl⟩⟩
    · simp [Value.cells] at hcs
      obtain ⟨rfl, rfl, rfl⟩ := hcs
      exact ⟨zs, .inr ⟨_, rfl, hl, hm, by simpa using hz, hcell, hwz⟩⟩
  clear hA0 hval0
  refine (walk a0 len0 cap0 z0 a1 len1 cap1 z1 W w0 w1).mono fun e W' ⟨he, bel⟩ => ?_
  subst he
  exact ⟨_, rfl, _, _, _, [], _, [], hW', trodAll_mk1 (shut_bool Try.underlying4 _), (trodAll_cons_mk (Below.trod Try.laidOut (by kernel_rfl) (of_decide_eq_true (by kernel_rfl)) k0 bel lt0) (trodAll_cons_mk (Below.trod Try.laidOut (by kernel_rfl) (of_decide_eq_true (by kernel_rfl)) k1 bel lt1) trodAll_mk0)), rfl, bel.frame _, fun h => by cases h⟩

theorem over : Rows.packPutsRow.holds Try.pinned (OpenSpec.ofChange Rows.packPutsSpec) :=
  OpenClaim.holds_of_wide 3 Try.f3 rfl rfl rfl rfl rfl rfl rfl ⟨rfl, rfl, rfl, rfl, rfl⟩ rfl rfl rfl rfl rfl (by kernel_rfl) Try.func3 (by kernel_rfl)
    (of_decide_eq_true (by kernel_rfl)) (by unfold Func.isWrapper; first | (rw [if_pos (by decide +kernel)]; kernel_rfl) | (rw [if_neg (by decide +kernel)]; exact ⟨rfl, rfl⟩))
    (fun os started H enc _ => lifted os started H enc)



end packPuts

/-- The statement. -/
theorem packPuts_holds : Rows.PackPutsSaid := packPuts.over
#print axioms packPuts_holds
end Go.Proofs.Ytmjcpcpcngpdjab
