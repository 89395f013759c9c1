/- AclRanges' walk. -/
import Derived.Test.YtjhgcdjnmbfccaaDoorQbT
import Derived.Laws.BitsAllLaws
namespace Go.Proofs.YtjhgcdjnmbfccaaDoor
open Go.RowKit Go.Shelf
set_option maxRecDepth 8000

section
variable (x0 x1 x2 x3 y0 y1 y2 y3 : Nat)

/-- Both addresses in memory. -/
def PB (w V : World) : Prop :=
  V.heap[w.heap.size]? = some (.cells #[u8V x0, u8V x1, u8V x2, u8V x3] 22 (0, 0)) ∧ V.heap[w.heap.size + 1]? = some (.cells #[u8V y0, u8V y1, u8V y2, u8V y3] 22 (0, 0)) ∧ Below w.heap.size w V

/-- Their cells. -/
def PBc (w V : World) : Prop :=
  (V.cell? ⟨w.heap.size, 0, none⟩ = some (u8V x0) ∧ V.cell? ⟨w.heap.size, 1, none⟩ = some (u8V x1) ∧ V.cell? ⟨w.heap.size, 2, none⟩ = some (u8V x2) ∧ V.cell? ⟨w.heap.size, 3, none⟩ = some (u8V x3)) ∧
  V.cell? ⟨w.heap.size + 1, 0, none⟩ = some (u8V y0) ∧ V.cell? ⟨w.heap.size + 1, 1, none⟩ = some (u8V y1) ∧ V.cell? ⟨w.heap.size + 1, 2, none⟩ = some (u8V y2) ∧ V.cell? ⟨w.heap.size + 1, 3, none⟩ = some (u8V y3)
end

section
variable {x0 x1 x2 x3 y0 y1 y2 y3 : Nat} {w V V' : World}

theorem PB.below (h : PB x0 x1 x2 x3 y0 y1 y2 y3 w V) (hB : Below V.heap.size V V') : PB x0 x1 x2 x3 y0 y1 y2 y3 w V' :=
  ⟨(hB.block _ (lt_of_block h.1)).trans h.1, (hB.block _ (lt_of_block h.2.1)).trans h.2.1, h.2.2.trans (hB.mono h.2.2.size)⟩

theorem PB.cells (h : PB x0 x1 x2 x3 y0 y1 y2 y3 w V) : PBc x0 x1 x2 x3 y0 y1 y2 y3 w V :=
  ⟨⟨cell_of_row V w.heap.size 0 _ _ _ h.1, cell_of_row V w.heap.size 1 _ _ _ h.1, cell_of_row V w.heap.size 2 _ _ _ h.1, cell_of_row V w.heap.size 3 _ _ _ h.1⟩,
   cell_of_row V (w.heap.size + 1) 0 _ _ _ h.2.1, cell_of_row V (w.heap.size + 1) 1 _ _ _ h.2.1, cell_of_row V (w.heap.size + 1) 2 _ _ _ h.2.1, cell_of_row V (w.heap.size + 1) 3 _ _ _ h.2.1⟩
end

theorem four_le {a b c d : Nat} (ha : a ≤ 255) (hb : b ≤ 255) (hc : c ≤ 255) (hd : d ≤ 255) (j : Nat) : [a, b, c, d].getD j 0 ≤ 255 := by
  match j with
  | 0 => simpa using ha
  | 1 => simpa using hb
  | 2 => simpa using hc
  | 3 => simpa using hd
  | j + 4 => simp

theorem PB.at {x0 x1 x2 x3 y0 y1 y2 y3 : Nat} {w V : World} (h : PB x0 x1 x2 x3 y0 y1 y2 y3 w V) {q : Nat} (hq : q < 4) : V.drew.cell? ⟨w.heap.size, q, none⟩ = some (u8V ([x0, x1, x2, x3].getD q 0)) ∧ V.drew.cell? ⟨w.heap.size + 1, q, none⟩ = some (u8V ([y0, y1, y2, y3].getD q 0)) := by
  obtain ⟨⟨c0, c1, c2, c3⟩, d0, d1, d2, d3⟩ := h.cells
  have hq4 : q = 0 ∨ q = 1 ∨ q = 2 ∨ q = 3 := by omega
  rcases hq4 with rfl | rfl | rfl | rfl
  · exact ⟨c0, d0⟩
  · exact ⟨c1, d1⟩
  · exact ⟨c2, d2⟩
  · exact ⟨c3, d3⟩

theorem bit_and {x : Nat} (hx : x ≤ 255) (k : Nat) : bits .and .u8 ((x : Int) / 2 ^ k) 1 = ((x / 2 ^ k % 2 : Nat) : Int) := by
  have e : (x : Int) / 2 ^ k = ((x / 2 ^ k : Nat) : Int) := by simp
  have hle : x / 2 ^ k ≤ x := Nat.div_le_self _ _
  rw [e]
  have := u8_and_nat (x / 2 ^ k) 1 (by omega) (by omega)
  rw [Nat.and_one_is_mod] at this
  exact this

/-- Both addresses and the client's id in memory. -/
def PBY (x0 x1 x2 x3 y0 y1 y2 y3 : Nat) (yt : ByteArray) (wb w V : World) : Prop := PB x0 x1 x2 x3 y0 y1 y2 y3 w V ∧ V.heap[wb.heap.size]? = some (.cells #[.string ipB, .string yt] 25 (0, 0))

theorem PBY.below {x0 x1 x2 x3 y0 y1 y2 y3 : Nat} {yt : ByteArray} {wb w V V' : World} (h : PBY x0 x1 x2 x3 y0 y1 y2 y3 yt wb w V) (hB : Below V.heap.size V V') : PBY x0 x1 x2 x3 y0 y1 y2 y3 yt wb w V' :=
  ⟨h.1.below hB, (hB.block _ (lt_of_block h.2)).trans h.2⟩

theorem PBY.cells {x0 x1 x2 x3 y0 y1 y2 y3 : Nat} {yt : ByteArray} {wb w V : World} (h : PBY x0 x1 x2 x3 y0 y1 y2 y3 yt wb w V) : V.cell? ⟨wb.heap.size, 0, none⟩ = some (.string ipB) ∧ V.cell? ⟨wb.heap.size, 1, none⟩ = some (.string yt) :=
  ⟨cell_of_row V wb.heap.size 0 _ _ _ h.2, cell_of_row V wb.heap.size 1 _ _ _ h.2⟩

theorem sl_size : (⟨#[47]⟩ : ByteArray).size = 1 := rfl

set_option maxHeartbeats 2000000 in
theorem ranges_walk (x0 x1 x2 x3 y0 y1 y2 y3 : Nat) (hx0 : x0 ≤ 255) (hx1 : x1 ≤ 255) (hx2 : x2 ≤ 255) (hx3 : x3 ≤ 255) (hy0 : y0 ≤ 255) (hy1 : y1 ≤ 255) (hy2 : y2 ≤ 255) (hy3 : y3 ≤ 255) (w : World) :
    Calls Tryd.prog 3 #[.agg #[u8V x0, u8V x1, u8V x2, u8V x3], .agg #[u8V y0, u8V y1, u8V y2, u8V y3]] w fun e w' => e = .returned (.bool true) ∧ Below w.heap.size w w' := by
  obtain ⟨xt, hxt⟩ : ∃ t : ByteArray, t = ⟨(txtA x0 x1 x2 x3).toArray⟩ := ⟨_, rfl⟩
  obtain ⟨yt, hyt⟩ : ∃ t : ByteArray, t = ⟨(txtA y0 y1 y2 y3).toArray⟩ := ⟨_, rfl⟩
  have HX : Hid (∀ V : World, Hid (PB x0 x1 x2 x3 y0 y1 y2 y3 w V) → Calls Tryd.prog 4 #[.agg #[u8V x0, u8V x1, u8V x2, u8V x3]] V fun e w' => e = .returned (.string xt) ∧ Hid (PB x0 x1 x2 x3 y0 y1 y2 y3 w w') ∧ PBc x0 x1 x2 x3 y0 y1 y2 y3 w w') := fun V hV => by
    rw [hxt]; exact (lawText_any x0 x1 x2 x3 hx0 hx1 hx2 hx3 V).mono (fun e w' h => ⟨h.1, hV.out.below h.2, (hV.out.below h.2).cells⟩)
  have HY : Hid (∀ V : World, Hid (PB x0 x1 x2 x3 y0 y1 y2 y3 w V) → Calls Tryd.prog 4 #[.agg #[u8V y0, u8V y1, u8V y2, u8V y3]] V fun e w' => e = .returned (.string yt) ∧ Hid (PB x0 x1 x2 x3 y0 y1 y2 y3 w w') ∧ PBc x0 x1 x2 x3 y0 y1 y2 y3 w w') := fun V hV => by
    rw [hyt]; exact (lawText_any y0 y1 y2 y3 hy0 hy1 hy2 hy3 V).mono (fun e w' h => ⟨h.1, hV.out.below h.2, (hV.out.below h.2).cells⟩)
  have HXT : Hid (xt = ⟨(txtA x0 x1 x2 x3).toArray⟩) := hxt
  have HYT : Hid (yt = ⟨(txtA y0 y1 y2 y3).toArray⟩) := hyt
  clear hxt hyt
  have HP0 : Hid (PB x0 x1 x2 x3 y0 y1 y2 y3 w ((w.alloc (.cells #[u8V x0, u8V x1, u8V x2, u8V x3] 22)).alloc (.cells #[u8V y0, u8V y1, u8V y2, u8V y3] 22))) := ⟨by rw [Below.heap_alloc _ _ _ (by simp only [World.size_alloc]; omega)]; exact heap_alloc_new w _, alloc_newq (by simp only [World.size_alloc]), ((Below.refl _ w).alloc (Nat.le_refl _) _).alloc (by simp only [World.size_alloc]; omega) _⟩
  go_enter Tryd.func3, Tryd.ntmps3
  go_wp2_with fail
  go_at_call 4
  refine (HX.out _ HP0).mono ?_
  rintro e wa ⟨rfl, HPa, ⟨ca0, ca1, ca2, ca3⟩, da0, da1, da2, da3⟩
  clear HP0 HX
  go_wp2_with fail
  go_at_call 4
  refine (HY.out _ HPa).mono ?_
  rintro e wb ⟨rfl, HPb, hPbc⟩
  clear HPa HY ca0 ca1 ca2 ca3 da0 da1 da2 da3 hPbc
  have HL : Hid (PBY x0 x1 x2 x3 y0 y1 y2 y3 yt wb w (wb.alloc (.cells #[.string ipB, .string yt] 25))) := ⟨HPb.out.below ((Below.refl _ _).alloc (Nat.le_refl _) _), heap_alloc_new _ _⟩
  obtain ⟨T, hT⟩ : ∃ T : Nat → ByteArray, ∀ n, T n = ⟨(dec3 n).toArray⟩ := ⟨_, fun _ => rfl⟩
  have hTs : ∀ n, (T n).size ≤ 3 := fun n => by rw [hT]; exact dec3_len n
  obtain ⟨M, hM⟩ : ∃ M : Nat → Bool, ∀ n, M n = metA n [x0, x1, x2, x3] [y0, y1, y2, y3] := ⟨_, fun _ => rfl⟩
  have hxl : xt.data.toList = txtA x0 x1 x2 x3 := by rw [HXT.out]
  have hyl : yt.data.toList = txtA y0 y1 y2 y3 := by rw [HYT.out]
  have hxs : xt.size ≤ 15 := by rw [HXT.out]; exact txt_len
  have HNU : Hid (∀ (n : Nat) (V : World), n ≤ 255 → Hid (PBY x0 x1 x2 x3 y0 y1 y2 y3 yt wb w V) → Calls Tryd.prog 6 #[.int .i64 (n : Int)] V fun e w' => e = .returned (.string (T n)) ∧ Hid (PBY x0 x1 x2 x3 y0 y1 y2 y3 yt wb w w')) := fun n V hn hV => by
    rw [hT]
    exact (lawNumber_any n hn V).mono (fun e w' h => ⟨h.1, hV.out.below h.2⟩)
  have HMT : Hid (∀ (n : Nat) (V : World), n ≤ 32 → Hid (PBY x0 x1 x2 x3 y0 y1 y2 y3 yt wb w V) → Calls Tryd.prog 5 #[.agg #[.string ipB, .string (xt ++ ⟨#[47]⟩ ++ T n)], .agg #[.string ipB, .string yt]] V fun e w' => e = .returned (.bool (M n)) ∧ Hid (PBY x0 x1 x2 x3 y0 y1 y2 y3 yt wb w w')) := fun n V hn hV => by
    rw [hM]
    have h3 := hTs n
    exact (meets_at hy0 hy1 hy2 hy3 (by rw [hT, ← rng_num hx0 hx1 hx2 hx3 hn, ← hxl]; simp) (by simp only [ByteArray.size_append, sl_size]; omega) hyl V).mono (fun e w' h => ⟨h.1, hV.out.below h.2⟩)
  have HMP : Hid (∀ V : World, Hid (PBY x0 x1 x2 x3 y0 y1 y2 y3 yt wb w V) → Calls Tryd.prog 5 #[.agg #[.string ipB, .string xt], .agg #[.string ipB, .string yt]] V fun e w' => e = .returned (.bool (M 32)) ∧ Hid (PBY x0 x1 x2 x3 y0 y1 y2 y3 yt wb w w') ∧ w'.cell? ⟨wb.heap.size, 0, none⟩ = some (.string ipB) ∧ w'.cell? ⟨wb.heap.size, 1, none⟩ = some (.string yt)) := fun V hV => by
    rw [hM]
    exact (meets_at hy0 hy1 hy2 hy3 (by rw [hxl, rng_plain hx0 hx1 hx2 hx3]) (by omega) hyl V).mono (fun e w' h => ⟨h.1, hV.out.below h.2, (hV.out.below h.2).cells⟩)
  have HM3 : Hid (∀ V : World, Hid (PBY x0 x1 x2 x3 y0 y1 y2 y3 yt wb w V) → Calls Tryd.prog 5 #[.agg #[.string ipB, .string (xt ++ ⟨#[47, 51, 51]⟩)], .agg #[.string ipB, .string yt]] V fun e w' => e = .returned (.bool false) ∧ Hid (PBY x0 x1 x2 x3 y0 y1 y2 y3 yt wb w w') ∧ w'.cell? ⟨wb.heap.size, 0, none⟩ = some (.string ipB) ∧ w'.cell? ⟨wb.heap.size, 1, none⟩ = some (.string yt)) := fun V hV => by
    refine (meets_ip_no _ yt ?_ ?_ V).mono (fun e w' h => ⟨h.1, hV.out.below h.2, (hV.out.below h.2).cells⟩)
    · simp only [ByteArray.size_append, show (⟨#[47, 51, 51]⟩ : ByteArray).size = 3 from rfl]; omega
    · have e3 := rng_33 hx0 hx1 hx2 hx3
      rw [← hxl] at e3
      simp only [ByteArray.data_append, Array.toList_append]
      rw [e3]; rfl
  have HSK : Hid (∀ s, s ≤ 32 → (∀ i, i < s → bitN [x0, x1, x2, x3] i = bitN [y0, y1, y2, y3] i) → (s = 32 ∨ bitN [x0, x1, x2, x3] s ≠ bitN [y0, y1, y2, y3] s) → ∀ n, n ≤ 32 → M n = decide (n ≤ s)) := fun s h1 h2 h3 n h4 => by
    rw [hM]; exact same_key hx0 hx1 hx2 hx3 hy0 hy1 hy2 hy3 h1 h2 h3 n h4
  clear hT hM hxl hyl HXT HYT HPb
  go_wp2
  go_loopw [7] (fun vs wr => ∃ s : Nat, s ≤ 32 ∧ vs = .int .i64 (s : Int) ∧ Hid (∀ i, i < s → bitN [x0, x1, x2, x3] i = bitN [y0, y1, y2, y3] i) ∧ Hid (PBY x0 x1 x2 x3 y0 y1 y2 y3 yt wb w wr)) (fun vs _ => (32 - intOf vs).toNat)
  case atStart => exact ⟨0, by omega, rfl, fun i hi => by omega, HL.out⟩
  case round =>
    obtain ⟨s, hs, rfl, HI, HB⟩ := hrel
    clear HL
    have HB9 : Hid (PBY x0 x1 x2 x3 y0 y1 y2 y3 yt wb w wr.drew) := HB.out.below ⟨rfl, rfl, rfl, Nat.le_refl _, fun _ _ => rfl⟩
    obtain ⟨wQ, hwQ⟩ : ∃ V, V = wr.drew := ⟨_, rfl⟩
    by_cases h32 : s < 32
    · have hd : decide ((s : Int) < 32) = true := by simp; omega
      obtain ⟨q, hq⟩ : ∃ q, q = s / 8 := ⟨_, rfl⟩
      obtain ⟨k, hk⟩ : ∃ k, k = 7 - s % 8 := ⟨_, rfl⟩
      obtain ⟨xq, hxq⟩ : ∃ x, x = [x0, x1, x2, x3].getD q 0 := ⟨_, rfl⟩
      obtain ⟨yq, hyq⟩ : ∃ x, x = [y0, y1, y2, y3].getD q 0 := ⟨_, rfl⟩
      obtain ⟨xb, hxb⟩ : ∃ x, x = xq / 2 ^ k % 2 := ⟨_, rfl⟩
      obtain ⟨yb, hyb⟩ : ∃ x, x = yq / 2 ^ k % 2 := ⟨_, rfl⟩
      obtain ⟨b, hb⟩ : ∃ b, b = decide (xb = yb) := ⟨_, rfl⟩
      have hq4 : (q : Int) < 4 := by omega
      have hk7 : k ≤ 7 := by omega
      have hxl : xq ≤ 255 := by rw [hxq]; exact four_le hx0 hx1 hx2 hx3 q
      have hyl : yq ≤ 255 := by rw [hyq]; exact four_le hy0 hy1 hy2 hy3 q
      have HC : Hid (wr.drew.cell? ⟨w.heap.size, q, none⟩ = some (u8V xq) ∧ wr.drew.cell? ⟨w.heap.size + 1, q, none⟩ = some (u8V yq)) := by
        rw [hxq, hyq]; exact HB.out.1.at (by omega)
      have HQ : Hid (IntKind.i64.wrap ((s : Int) / 8) = (q : Int)) := by
        show _ = _
        simp [IntKind.wrap, IntKind.bits, IntKind.signed]; omega
      have HK7 : Hid (IntKind.i64.wrap (7 - (s : Int).tmod 8) = (k : Int)) := by
        show _ = _
        rw [Int.tmod_eq_emod_of_nonneg (by omega)]
        simp [IntKind.wrap, IntKind.bits, IntKind.signed]; omega
      have HXA : Hid (bits .and .u8 ((xq : Int) / 2 ^ k) 1 = (xb : Int)) := by rw [hxb]; exact bit_and hxl k
      have HYA : Hid (bits .and .u8 ((yq : Int) / 2 ^ k) 1 = (yb : Int)) := by rw [hyb]; exact bit_and hyl k
      have HEB : Hid (((xb : Int) == (yb : Int)) = b) := by
        show _ = _
        rw [hb]
        by_cases h : xb = yb
        · subst h; simp
        · rw [decide_eq_false h]; simp; omega
      have HXB : Hid (b = decide (bitN [x0, x1, x2, x3] s = bitN [y0, y1, y2, y3] s)) := by show _ = _; rw [hb, hxb, hyb, hxq, hyq, hq, hk]; rfl
      clear hq hk hxq hyq hxb hyb hb hx0 hx1 hx2 hx3 hy0 hy1 hy2 hy3 hwQ
      go_wp2_with fail
      refine wp_region_held_drew (S := fun w' => w'.cell? ⟨w.heap.size, q, none⟩ = some (u8V xq) ∧ w'.cell? ⟨w.heap.size + 1, q, none⟩ = some (u8V yq)) (by kernel_rfl) ?_ (fun hHeld => ?_)
      · exact HC.out
      refine wpAnyH_take (i := 0) (oi := { dst := some 17, op := Op.move (Operand.tmp 7), type := 3, pos := "law.go:210", after := #[], guard := none }) (v := ?_) rfl (by kernel_rfl) (by kernel_rfl) (by kernel_rfl) (fun _ _ _ h => h) (Or.inl ⟨by rfl, ?_⟩) (by assumption) ?_
      rotate_left
      · (intro w hSw; (try dsimp only at hSw); go_simp) <;> with_reducible rfl
      try simp only [Act.put, List.setIfInBounds_toArray, List.set_cons_zero, List.set_cons_succ]
      refine wpAnyH_take (i := 1) (oi := { dst := some 18, op := Op.binOp BinOp.lss 3 (Operand.tmp 17) (Operand.const (Value.int IntKind.i64 32)) 3, type := 4, pos := "law.go:210", after := #[{ on := 0, ground := Ground.data }], guard := none }) (v := ?_) rfl (by kernel_rfl) (by kernel_rfl) (by kernel_rfl) (fun _ _ _ h => h) (Or.inl ⟨by rfl, ?_⟩) (by assumption) ?_
      rotate_left
      · (intro w hSw; (try dsimp only at hSw); go_simp) <;> with_reducible rfl
      try simp only [Act.put, List.setIfInBounds_toArray, List.set_cons_zero, List.set_cons_succ]
      refine wpAnyH_take (i := 2) (oi := { dst := some 19, op := Op.move (Operand.tmp 18), type := 4, pos := "law.go:210", after := #[{ on := 1, ground := Ground.data }], guard := none }) (v := ?_) rfl (by kernel_rfl) (by kernel_rfl) (by kernel_rfl) (fun _ _ _ h => h) (Or.inl ⟨by rfl, ?_⟩) (by assumption) ?_
      rotate_left
      · (intro w hSw; (try dsimp only at hSw); go_simp) <;> with_reducible rfl
      try simp only [Act.put, List.setIfInBounds_toArray, List.set_cons_zero, List.set_cons_succ]
      refine wpAnyH_take (i := 3) (oi := { dst := some 20, op := Op.move (Operand.tmp 7), type := 3, pos := "law.go:210", after := #[{ on := 2, ground := Ground.guard }], guard := some (2, true) }) (v := ?_) rfl (by kernel_rfl) (by kernel_rfl) (by kernel_rfl) (fun _ _ _ h => h) (Or.inl ⟨by rfl, ?_⟩) (by assumption) ?_
      rotate_left
      · (intro w hSw; (try dsimp only at hSw); go_simp) <;> with_reducible rfl
      try simp only [Act.put, List.setIfInBounds_toArray, List.set_cons_zero, List.set_cons_succ]
      refine wpAnyH_take (i := 4) (oi := { dst := some 21, op := Op.binOp BinOp.quo 3 (Operand.tmp 20) (Operand.const (Value.int IntKind.i64 8)) 3, type := 3, pos := "law.go:210", after := #[{ on := 3, ground := Ground.data }, { on := 2, ground := Ground.guard }], guard := some (2, true) }) (v := ?_) rfl (by kernel_rfl) (by kernel_rfl) (by kernel_rfl) (fun _ _ _ h => h) (Or.inl ⟨by rfl, ?_⟩) (by assumption) ?_
      rotate_left
      · (intro w hSw; (try dsimp only at hSw); go_simp; (rw [HQ.out]) <;> with_reducible rfl)
      try simp only [Act.put, List.setIfInBounds_toArray, List.set_cons_zero, List.set_cons_succ]
      refine wpAnyH_take (i := 5) (oi := { dst := some 22, op := Op.indexAddr 22 (Operand.tmp 2) (Operand.tmp 21), type := 0, pos := "law.go:210", after := #[{ on := 4, ground := Ground.data }, { on := 2, ground := Ground.guard }], guard := some (2, true) }) (v := ?_) rfl (by kernel_rfl) (by kernel_rfl) (by kernel_rfl) (fun _ _ _ h => h) (Or.inl ⟨by rfl, ?_⟩) (by assumption) ?_
      rotate_left
      · (intro w hSw; (try dsimp only at hSw); go_simp) <;> with_reducible rfl
      try simp only [Act.put, List.setIfInBounds_toArray, List.set_cons_zero, List.set_cons_succ]
      refine wpAnyH_take (i := 6) (oi := { dst := some 23, op := Op.load 5 (Operand.tmp 22), type := 5, pos := "law.go:210", after := #[{ on := 5, ground := Ground.data }, { on := 2, ground := Ground.guard }], guard := some (2, true) }) (v := ?_) rfl (by kernel_rfl) (by kernel_rfl) (by kernel_rfl) (fun _ _ _ h => h) (Or.inl ⟨by rfl, ?_⟩) (by assumption) ?_
      rotate_left
      · (intro w hSw; (try dsimp only at hSw); go_simp) <;> with_reducible rfl
      try simp only [Act.put, List.setIfInBounds_toArray, List.set_cons_zero, List.set_cons_succ]
      refine wpAnyH_take (i := 7) (oi := { dst := some 24, op := Op.move (Operand.tmp 7), type := 3, pos := "law.go:210", after := #[{ on := 2, ground := Ground.guard }], guard := some (2, true) }) (v := ?_) rfl (by kernel_rfl) (by kernel_rfl) (by kernel_rfl) (fun _ _ _ h => h) (Or.inl ⟨by rfl, ?_⟩) (by assumption) ?_
      rotate_left
      · (intro w hSw; (try dsimp only at hSw); go_simp) <;> with_reducible rfl
      try simp only [Act.put, List.setIfInBounds_toArray, List.set_cons_zero, List.set_cons_succ]
      refine wpAnyH_take (i := 8) (oi := { dst := some 25, op := Op.binOp BinOp.rem 3 (Operand.tmp 24) (Operand.const (Value.int IntKind.i64 8)) 3, type := 3, pos := "law.go:210", after := #[{ on := 7, ground := Ground.data }, { on := 2, ground := Ground.guard }], guard := some (2, true) }) (v := ?_) rfl (by kernel_rfl) (by kernel_rfl) (by kernel_rfl) (fun _ _ _ h => h) (Or.inl ⟨by rfl, ?_⟩) (by assumption) ?_
      rotate_left
      · (intro w hSw; (try dsimp only at hSw); go_simp) <;> with_reducible rfl
      try simp only [Act.put, List.setIfInBounds_toArray, List.set_cons_zero, List.set_cons_succ]
      refine wpAnyH_take (i := 9) (oi := { dst := some 26, op := Op.binOp BinOp.sub 3 (Operand.const (Value.int IntKind.i64 7)) (Operand.tmp 25) 3, type := 3, pos := "law.go:210", after := #[{ on := 8, ground := Ground.data }, { on := 2, ground := Ground.guard }], guard := some (2, true) }) (v := ?_) rfl (by kernel_rfl) (by kernel_rfl) (by kernel_rfl) (fun _ _ _ h => h) (Or.inl ⟨by rfl, ?_⟩) (by assumption) ?_
      rotate_left
      · (intro w hSw; (try dsimp only at hSw); go_simp; (rw [HK7.out]) <;> with_reducible rfl)
      try simp only [Act.put, List.setIfInBounds_toArray, List.set_cons_zero, List.set_cons_succ]
      refine wpAnyH_take (i := 10) (oi := { dst := some 27, op := Op.binOp BinOp.shr 5 (Operand.tmp 23) (Operand.tmp 26) 3, type := 5, pos := "law.go:210", after := #[{ on := 6, ground := Ground.data }, { on := 9, ground := Ground.data }, { on := 2, ground := Ground.guard }], guard := some (2, true) }) (v := ?_) rfl (by kernel_rfl) (by kernel_rfl) (by kernel_rfl) (fun _ _ _ h => h) (Or.inl ⟨by rfl, ?_⟩) (by assumption) ?_
      rotate_left
      · (intro w hSw; (try dsimp only at hSw); go_simp) <;> with_reducible rfl
      try simp only [Act.put, List.setIfInBounds_toArray, List.set_cons_zero, List.set_cons_succ]
      refine wpAnyH_take (i := 11) (oi := { dst := some 28, op := Op.binOp BinOp.and 5 (Operand.tmp 27) (Operand.const (Value.int IntKind.u8 1)) 5, type := 5, pos := "law.go:210", after := #[{ on := 10, ground := Ground.data }, { on := 2, ground := Ground.guard }], guard := some (2, true) }) (v := ?_) rfl (by kernel_rfl) (by kernel_rfl) (by kernel_rfl) (fun _ _ _ h => h) (Or.inl ⟨by rfl, ?_⟩) (by assumption) ?_
      rotate_left
      · (intro w hSw; (try dsimp only at hSw); go_simp; (rw [HXA.out]) <;> with_reducible rfl)
      try simp only [Act.put, List.setIfInBounds_toArray, List.set_cons_zero, List.set_cons_succ]
      refine wpAnyH_take (i := 12) (oi := { dst := some 29, op := Op.move (Operand.tmp 7), type := 3, pos := "law.go:210", after := #[{ on := 2, ground := Ground.guard }], guard := some (2, true) }) (v := ?_) rfl (by kernel_rfl) (by kernel_rfl) (by kernel_rfl) (fun _ _ _ h => h) (Or.inl ⟨by rfl, ?_⟩) (by assumption) ?_
      rotate_left
      · (intro w hSw; (try dsimp only at hSw); go_simp) <;> with_reducible rfl
      try simp only [Act.put, List.setIfInBounds_toArray, List.set_cons_zero, List.set_cons_succ]
      refine wpAnyH_take (i := 13) (oi := { dst := some 30, op := Op.binOp BinOp.quo 3 (Operand.tmp 29) (Operand.const (Value.int IntKind.i64 8)) 3, type := 3, pos := "law.go:210", after := #[{ on := 12, ground := Ground.data }, { on := 2, ground := Ground.guard }], guard := some (2, true) }) (v := ?_) rfl (by kernel_rfl) (by kernel_rfl) (by kernel_rfl) (fun _ _ _ h => h) (Or.inl ⟨by rfl, ?_⟩) (by assumption) ?_
      rotate_left
      · (intro w hSw; (try dsimp only at hSw); go_simp; (rw [HQ.out]) <;> with_reducible rfl)
      try simp only [Act.put, List.setIfInBounds_toArray, List.set_cons_zero, List.set_cons_succ]
      refine wpAnyH_take (i := 14) (oi := { dst := some 31, op := Op.indexAddr 22 (Operand.tmp 3) (Operand.tmp 30), type := 0, pos := "law.go:210", after := #[{ on := 13, ground := Ground.data }, { on := 2, ground := Ground.guard }], guard := some (2, true) }) (v := ?_) rfl (by kernel_rfl) (by kernel_rfl) (by kernel_rfl) (fun _ _ _ h => h) (Or.inl ⟨by rfl, ?_⟩) (by assumption) ?_
      rotate_left
      · (intro w hSw; (try dsimp only at hSw); go_simp) <;> with_reducible rfl
      try simp only [Act.put, List.setIfInBounds_toArray, List.set_cons_zero, List.set_cons_succ]
      refine wpAnyH_take (i := 15) (oi := { dst := some 32, op := Op.load 5 (Operand.tmp 31), type := 5, pos := "law.go:210", after := #[{ on := 14, ground := Ground.data }, { on := 2, ground := Ground.guard }], guard := some (2, true) }) (v := ?_) rfl (by kernel_rfl) (by kernel_rfl) (by kernel_rfl) (fun _ _ _ h => h) (Or.inl ⟨by rfl, ?_⟩) (by assumption) ?_
      rotate_left
      · (intro w hSw; (try dsimp only at hSw); go_simp) <;> with_reducible rfl
      try simp only [Act.put, List.setIfInBounds_toArray, List.set_cons_zero, List.set_cons_succ]
      refine wpAnyH_take (i := 16) (oi := { dst := some 33, op := Op.move (Operand.tmp 7), type := 3, pos := "law.go:210", after := #[{ on := 2, ground := Ground.guard }], guard := some (2, true) }) (v := ?_) rfl (by kernel_rfl) (by kernel_rfl) (by kernel_rfl) (fun _ _ _ h => h) (Or.inl ⟨by rfl, ?_⟩) (by assumption) ?_
      rotate_left
      · (intro w hSw; (try dsimp only at hSw); go_simp) <;> with_reducible rfl
      try simp only [Act.put, List.setIfInBounds_toArray, List.set_cons_zero, List.set_cons_succ]
      refine wpAnyH_take (i := 17) (oi := { dst := some 34, op := Op.binOp BinOp.rem 3 (Operand.tmp 33) (Operand.const (Value.int IntKind.i64 8)) 3, type := 3, pos := "law.go:210", after := #[{ on := 16, ground := Ground.data }, { on := 2, ground := Ground.guard }], guard := some (2, true) }) (v := ?_) rfl (by kernel_rfl) (by kernel_rfl) (by kernel_rfl) (fun _ _ _ h => h) (Or.inl ⟨by rfl, ?_⟩) (by assumption) ?_
      rotate_left
      · (intro w hSw; (try dsimp only at hSw); go_simp) <;> with_reducible rfl
      try simp only [Act.put, List.setIfInBounds_toArray, List.set_cons_zero, List.set_cons_succ]
      refine wpAnyH_take (i := 18) (oi := { dst := some 35, op := Op.binOp BinOp.sub 3 (Operand.const (Value.int IntKind.i64 7)) (Operand.tmp 34) 3, type := 3, pos := "law.go:210", after := #[{ on := 17, ground := Ground.data }, { on := 2, ground := Ground.guard }], guard := some (2, true) }) (v := ?_) rfl (by kernel_rfl) (by kernel_rfl) (by kernel_rfl) (fun _ _ _ h => h) (Or.inl ⟨by rfl, ?_⟩) (by assumption) ?_
      rotate_left
      · (intro w hSw; (try dsimp only at hSw); go_simp; (rw [HK7.out]) <;> with_reducible rfl)
      try simp only [Act.put, List.setIfInBounds_toArray, List.set_cons_zero, List.set_cons_succ]
      refine wpAnyH_take (i := 19) (oi := { dst := some 36, op := Op.binOp BinOp.shr 5 (Operand.tmp 32) (Operand.tmp 35) 3, type := 5, pos := "law.go:210", after := #[{ on := 15, ground := Ground.data }, { on := 18, ground := Ground.data }, { on := 2, ground := Ground.guard }], guard := some (2, true) }) (v := ?_) rfl (by kernel_rfl) (by kernel_rfl) (by kernel_rfl) (fun _ _ _ h => h) (Or.inl ⟨by rfl, ?_⟩) (by assumption) ?_
      rotate_left
      · (intro w hSw; (try dsimp only at hSw); go_simp) <;> with_reducible rfl
      try simp only [Act.put, List.setIfInBounds_toArray, List.set_cons_zero, List.set_cons_succ]
      refine wpAnyH_take (i := 20) (oi := { dst := some 37, op := Op.binOp BinOp.and 5 (Operand.tmp 36) (Operand.const (Value.int IntKind.u8 1)) 5, type := 5, pos := "law.go:210", after := #[{ on := 19, ground := Ground.data }, { on := 2, ground := Ground.guard }], guard := some (2, true) }) (v := ?_) rfl (by kernel_rfl) (by kernel_rfl) (by kernel_rfl) (fun _ _ _ h => h) (Or.inl ⟨by rfl, ?_⟩) (by assumption) ?_
      rotate_left
      · (intro w hSw; (try dsimp only at hSw); go_simp; (rw [HYA.out]) <;> with_reducible rfl)
      try simp only [Act.put, List.setIfInBounds_toArray, List.set_cons_zero, List.set_cons_succ]
      refine wpAnyH_take (i := 21) (oi := { dst := some 38, op := Op.binOp BinOp.eql 5 (Operand.tmp 28) (Operand.tmp 37) 5, type := 4, pos := "law.go:210", after := #[{ on := 11, ground := Ground.data }, { on := 20, ground := Ground.data }, { on := 2, ground := Ground.guard }], guard := some (2, true) }) (v := ?_) rfl (by kernel_rfl) (by kernel_rfl) (by kernel_rfl) (fun _ _ _ h => h) (Or.inl ⟨by rfl, ?_⟩) (by assumption) ?_
      rotate_left
      · (intro w hSw; (try dsimp only at hSw); go_simp; (rw [HEB.out]) <;> with_reducible rfl)
      try simp only [Act.put, List.setIfInBounds_toArray, List.set_cons_zero, List.set_cons_succ]
      refine wpAnyH_take (i := 22) (oi := { dst := some 39, op := Op.pick (Operand.tmp 19) (Operand.tmp 38) (Operand.const (Value.bool false)), type := 4, pos := "law.go:210", after := #[{ on := 2, ground := Ground.data }, { on := 21, ground := Ground.data }], guard := none }) (v := ?_) rfl (by kernel_rfl) (by kernel_rfl) (by kernel_rfl) (fun _ _ _ h => h) (Or.inl ⟨by rfl, ?_⟩) (by assumption) ?_
      rotate_left
      · (intro w hSw; (try dsimp only at hSw); go_simp) <;> with_reducible rfl
      try simp only [Act.put, List.setIfInBounds_toArray, List.set_cons_zero, List.set_cons_succ]
      refine wpAnyH_done (by kernel_rfl) ?_ _
      cases b
      · have HKEY : Hid (∀ n, n ≤ 32 → M n = decide (n ≤ s)) := HSK.out s hs HI.out (Or.inr (of_decide_eq_false HXB.out.symm))
        clear HSK HXB HEB HXA HYA HQ HK7 HC HI hq4 hk7 hxl hyl hd hHeld
        have HU : Hid (PBY x0 x1 x2 x3 y0 y1 y2 y3 yt wb w wr.drew) := HB9
        clear HB9
        go_wp2
        go_loopw [8] (fun vn wr => ∃ n : Nat, n ≤ 33 ∧ vn = .int .i64 (n : Int) ∧ Hid (PBY x0 x1 x2 x3 y0 y1 y2 y3 yt wb w wr)) (fun vn _ => (33 - intOf vn).toNat)
        case atStart => exact ⟨0, by omega, rfl, HU.out⟩
        case round =>
          obtain ⟨n, hn, rfl, HW⟩ := hrel
          clear HU
          by_cases hn32 : n ≤ 32
          · have hd : decide ((n : Int) ≤ 32) = true := by simp; omega
            have HD : Hid (PBY x0 x1 x2 x3 y0 y1 y2 y3 yt wb w wr.drew) := HW.out.below ⟨rfl, rfl, rfl, Nat.le_refl _, fun _ _ => rfl⟩
            have hTn := hTs n
            have HJ : Hid (M n = decide (n ≤ s)) := HKEY.out n hn32
            clear HW
            go_wp2_with fail
            refine wp_region_held_drew (S := fun w' => w'.cell? ⟨wb.heap.size, 0, none⟩ = some (.string ipB) ∧ w'.cell? ⟨wb.heap.size, 1, none⟩ = some (.string yt)) (by kernel_rfl) ?_ (fun hHeld => ?_)
            · exact HD.out.cells
            refine wpAnyH_take (i := 0) (oi := { dst := some 46, op := Op.move (Operand.tmp 5), type := 9, pos := "law.go:214", after := #[], guard := none }) (v := ?_) rfl (by kernel_rfl) (by kernel_rfl) (by kernel_rfl) (fun _ _ _ h => h) (Or.inl ⟨by rfl, ?_⟩) (by assumption) ?_
            rotate_left
            · (intro w hSw; (try dsimp only at hSw); go_simp) <;> with_reducible rfl
            try simp only [Act.put, List.setIfInBounds_toArray, List.set_cons_zero, List.set_cons_succ]
            refine wpAnyH_take (i := 1) (oi := { dst := some 47, op := Op.binOp BinOp.add 9 (Operand.tmp 46) (Operand.const (Value.string { data := #[47] })) 9, type := 9, pos := "law.go:214", after := #[{ on := 0, ground := Ground.data }], guard := none }) (v := ?_) rfl (by kernel_rfl) (by kernel_rfl) (by kernel_rfl) (fun _ _ _ h => h) (Or.inl ⟨by rfl, ?_⟩) (by assumption) ?_
            rotate_left
            · (intro w hSw; (try dsimp only at hSw); go_simp; (split <;> first | (exfalso; (try simp only [ByteArray.size_append, sl_size] at *); omega) | with_reducible rfl))
            try simp only [Act.put, List.setIfInBounds_toArray, List.set_cons_zero, List.set_cons_succ]
            refine wpAnyH_take (i := 2) (oi := { dst := some 48, op := Op.move (Operand.tmp 8), type := 3, pos := "law.go:214", after := #[], guard := none }) (v := ?_) rfl (by kernel_rfl) (by kernel_rfl) (by kernel_rfl) (fun _ _ _ h => h) (Or.inl ⟨by rfl, ?_⟩) (by assumption) ?_
            rotate_left
            · (intro w hSw; (try dsimp only at hSw); go_simp) <;> with_reducible rfl
            try simp only [Act.put, List.setIfInBounds_toArray, List.set_cons_zero, List.set_cons_succ]
            refine wpAnyH_take (i := 6) (oi := { dst := some 52, op := Op.load 25 (Operand.tmp 6), type := 25, pos := "law.go:214", after := #[], guard := none }) (v := ?_) rfl (by kernel_rfl) (by kernel_rfl) (by kernel_rfl) (fun _ _ _ h => h) (Or.inl ⟨by rfl, ?_⟩) (by assumption) ?_
            rotate_left
            · (intro w hSw; (try dsimp only at hSw); go_simp) <;> with_reducible rfl
            try simp only [Act.put, List.setIfInBounds_toArray, List.set_cons_zero, List.set_cons_succ]
            refine wpAnyH_ready (rs := [3]) (by kernel_rfl) (by simp) ?_
            refine AllReadyH.cons (o := { dst := some 49, op := Op.call { callee := Callee.value (Operand.func 6), args := #[Operand.tmp 48], argTypes := #[3] }, type := 9, pos := "law.go:214", after := #[{ on := 2, ground := Ground.data }], guard := none }) rfl (fun K hK => ?_) AllReadyH.nil
            go_simp
            refine (HNU.out n _ (by omega) HD).mono ?_
            rintro e wc ⟨rfl, HE⟩
            clear hHeld
            refine hK.out _ _ HE.out.cells (fun hHeld => ?_)
            clear hK K
            refine wpAnyH_take (i := 4) (oi := { dst := some 50, op := Op.binOp BinOp.add 9 (Operand.tmp 47) (Operand.tmp 49) 9, type := 9, pos := "law.go:214", after := #[{ on := 1, ground := Ground.data }, { on := 3, ground := Ground.data }], guard := none }) (v := ?_) rfl (by kernel_rfl) (by kernel_rfl) (by kernel_rfl) (fun _ _ _ h => h) (Or.inl ⟨by rfl, ?_⟩) (by assumption) ?_
            rotate_left
            · (intro w hSw; (try dsimp only at hSw); go_simp; (split <;> first | (exfalso; (try simp only [ByteArray.size_append, sl_size] at *); omega) | with_reducible rfl))
            try simp only [Act.put, List.setIfInBounds_toArray, List.set_cons_zero, List.set_cons_succ]
            refine wpAnyH_take (i := 5) (oi := { dst := some 51, op := Op.build 25 #[(0, Operand.const (Value.string { data := #[105, 112] })), (1, Operand.tmp 50)], type := 25, pos := "law.go:214", after := #[{ on := 4, ground := Ground.data }], guard := none }) (v := ?_) rfl (by kernel_rfl) (by kernel_rfl) (by kernel_rfl) (fun _ _ _ h => h) (Or.inl ⟨by rfl, ?_⟩) (by assumption) ?_
            rotate_left
            · (intro w hSw; (try dsimp only at hSw); go_simp) <;> with_reducible rfl
            try simp only [Act.put, List.setIfInBounds_toArray, List.set_cons_zero, List.set_cons_succ]
            refine wpAnyH_ready (rs := [7]) (by kernel_rfl) (by simp) ?_
            refine AllReadyH.cons (o := { dst := some 53, op := Op.call { callee := Callee.value (Operand.func 5), args := #[Operand.tmp 51, Operand.tmp 52], argTypes := #[25, 25] }, type := 4, pos := "law.go:214", after := #[{ on := 5, ground := Ground.data }, { on := 6, ground := Ground.data }, { on := 3, ground := Ground.chain }], guard := none }) rfl (fun K hK => ?_) AllReadyH.nil
            go_simp
            refine (HMT.out n _ hn32 HE).mono ?_
            rintro e wd ⟨rfl, HF⟩
            clear hHeld
            refine hK.out _ _ HF.out.cells (fun hHeld => ?_)
            clear hK K
            refine wpAnyH_take (i := 8) (oi := { dst := some 9, op := Op.assign (Operand.tmp 53), type := 4, pos := "law.go:214", after := #[{ on := 7, ground := Ground.data }, { on := 7, ground := Ground.chain }, { on := 0, ground := Ground.phase }, { on := 1, ground := Ground.phase }, { on := 2, ground := Ground.phase }, { on := 3, ground := Ground.phase }, { on := 4, ground := Ground.phase }, { on := 5, ground := Ground.phase }, { on := 6, ground := Ground.phase }, { on := 7, ground := Ground.phase }], guard := none }) (v := ?_) rfl (by kernel_rfl) (by kernel_rfl) (by kernel_rfl) (fun _ _ _ h => h) (Or.inl ⟨by rfl, ?_⟩) (by assumption) ?_
            rotate_left
            · (intro w hSw; (try dsimp only at hSw); go_simp) <;> with_reducible rfl
            try simp only [Act.put, List.setIfInBounds_toArray, List.set_cons_zero, List.set_cons_succ]
            refine wpAnyH_done (by kernel_rfl) ?_ _
            have hbn : decide ((n : Int) ≤ (s : Int)) = M n := by rw [HJ.out]; simp
            cases hMn : M n
            · rw [hMn] at hbn
              have hns : ¬ n ≤ s := of_decide_eq_false (HJ.out.symm.trans hMn)
              go_wp2
              go_roundw
              case rel => exact ⟨n + 1, by omega, by simp, HF.out⟩
              case measure => simp [intOf]; omega
            · rw [hMn] at hbn
              have hns : n ≤ s := of_decide_eq_true (HJ.out.symm.trans hMn)
              go_wp2
              go_roundw
              case rel => exact ⟨n + 1, by omega, by simp, HF.out⟩
              case measure => simp [intOf]; omega
          · have hd : decide ((n : Int) ≤ 32) = false := by simp; omega
            obtain ⟨cy0, cy1⟩ := HW.out.cells
            have HJ : Hid (M 32 = decide (32 ≤ s)) := HKEY.out 32 (by omega)
            go_wp2_with fail
            go_at_call 5
            refine (HMP.out _ HW).mono ?_
            rintro e we ⟨rfl, HG, cz0, cz1⟩
            have hxt33 : ¬ (9223372036854775807 < xt.size + 3) := by omega
            go_wp2_with fail
            go_at_call 5
            refine (HM3.out _ HG).mono ?_
            rintro e wf ⟨rfl, HH, cu0, cu1⟩
            have hb32 : ((s : Int) == 32) = M 32 := by
              rw [HJ.out]
              by_cases h : s = 32
              · subst h; rfl
              · rw [decide_eq_false (by omega)]; simp; omega
            cases hM32 : M 32
            · rw [hM32] at hb32
              have hns : ¬ (s : Int) = 32 := by
                intro h
                rw [h] at hb32
                exact absurd hb32 (by decide)
              go_wp2
              all_goals (go_ret; exact ⟨rfl, HH.out.1.2.2⟩)
            · rw [hM32] at hb32
              have hns : (s : Int) = 32 := by simpa using hb32
              go_wp2
              all_goals (go_ret; exact ⟨rfl, HH.out.1.2.2⟩)
      · go_wp2
        go_roundw
        case rel => exact ⟨s + 1, by omega, by simp, fun i hi => by
          rcases Nat.lt_or_eq_of_le (Nat.le_of_lt_succ hi) with h | h
          · exact HI.out i h
          · subst h; exact of_decide_eq_true HXB.out.symm, HB9.out⟩
        case measure => simp [intOf]; omega
    · have hd : decide ((s : Int) < 32) = false := by simp; omega
      have HKEY : Hid (∀ n, n ≤ 32 → M n = decide (n ≤ s)) := HSK.out s hs HI.out (Or.inl (by omega))
      clear HSK HI hwQ
      go_wp2_with fail
      refine wp_region_held_drew (S := fun _ => True) (by kernel_rfl) ?_ (fun hHeld => ?_)
      · trivial
      refine wpAnyH_take (i := 0) (oi := { dst := some 17, op := Op.move (Operand.tmp 7), type := 3, pos := "law.go:210", after := #[], guard := none }) (v := ?_) rfl (by kernel_rfl) (by kernel_rfl) (by kernel_rfl) (fun _ _ _ h => h) (Or.inl ⟨by rfl, ?_⟩) (by assumption) ?_
      rotate_left
      · (intro w hSw; (try dsimp only at hSw); go_simp) <;> with_reducible rfl
      try simp only [Act.put, List.setIfInBounds_toArray, List.set_cons_zero, List.set_cons_succ]
      refine wpAnyH_take (i := 1) (oi := { dst := some 18, op := Op.binOp BinOp.lss 3 (Operand.tmp 17) (Operand.const (Value.int IntKind.i64 32)) 3, type := 4, pos := "law.go:210", after := #[{ on := 0, ground := Ground.data }], guard := none }) (v := ?_) rfl (by kernel_rfl) (by kernel_rfl) (by kernel_rfl) (fun _ _ _ h => h) (Or.inl ⟨by rfl, ?_⟩) (by assumption) ?_
      rotate_left
      · (intro w hSw; (try dsimp only at hSw); go_simp) <;> with_reducible rfl
      try simp only [Act.put, List.setIfInBounds_toArray, List.set_cons_zero, List.set_cons_succ]
      refine wpAnyH_take (i := 2) (oi := { dst := some 19, op := Op.move (Operand.tmp 18), type := 4, pos := "law.go:210", after := #[{ on := 1, ground := Ground.data }], guard := none }) (v := ?_) rfl (by kernel_rfl) (by kernel_rfl) (by kernel_rfl) (fun _ _ _ h => h) (Or.inl ⟨by rfl, ?_⟩) (by assumption) ?_
      rotate_left
      · (intro w hSw; (try dsimp only at hSw); go_simp) <;> with_reducible rfl
      try simp only [Act.put, List.setIfInBounds_toArray, List.set_cons_zero, List.set_cons_succ]
      refine wpAnyH_take (i := 3) (oi := { dst := some 20, op := Op.move (Operand.tmp 7), type := 3, pos := "law.go:210", after := #[{ on := 2, ground := Ground.guard }], guard := some (2, true) }) (v := undef) rfl (by kernel_rfl) (by kernel_rfl) (by kernel_rfl) (fun _ _ _ h => h) (Or.inr ⟨by rfl, rfl⟩) (by assumption) ?_
      try simp only [Act.put, List.setIfInBounds_toArray, List.set_cons_zero, List.set_cons_succ]
      refine wpAnyH_take (i := 4) (oi := { dst := some 21, op := Op.binOp BinOp.quo 3 (Operand.tmp 20) (Operand.const (Value.int IntKind.i64 8)) 3, type := 3, pos := "law.go:210", after := #[{ on := 3, ground := Ground.data }, { on := 2, ground := Ground.guard }], guard := some (2, true) }) (v := undef) rfl (by kernel_rfl) (by kernel_rfl) (by kernel_rfl) (fun _ _ _ h => h) (Or.inr ⟨by rfl, rfl⟩) (by assumption) ?_
      try simp only [Act.put, List.setIfInBounds_toArray, List.set_cons_zero, List.set_cons_succ]
      refine wpAnyH_take (i := 5) (oi := { dst := some 22, op := Op.indexAddr 22 (Operand.tmp 2) (Operand.tmp 21), type := 0, pos := "law.go:210", after := #[{ on := 4, ground := Ground.data }, { on := 2, ground := Ground.guard }], guard := some (2, true) }) (v := undef) rfl (by kernel_rfl) (by kernel_rfl) (by kernel_rfl) (fun _ _ _ h => h) (Or.inr ⟨by rfl, rfl⟩) (by assumption) ?_
      try simp only [Act.put, List.setIfInBounds_toArray, List.set_cons_zero, List.set_cons_succ]
      refine wpAnyH_take (i := 6) (oi := { dst := some 23, op := Op.load 5 (Operand.tmp 22), type := 5, pos := "law.go:210", after := #[{ on := 5, ground := Ground.data }, { on := 2, ground := Ground.guard }], guard := some (2, true) }) (v := undef) rfl (by kernel_rfl) (by kernel_rfl) (by kernel_rfl) (fun _ _ _ h => h) (Or.inr ⟨by rfl, rfl⟩) (by assumption) ?_
      try simp only [Act.put, List.setIfInBounds_toArray, List.set_cons_zero, List.set_cons_succ]
      refine wpAnyH_take (i := 7) (oi := { dst := some 24, op := Op.move (Operand.tmp 7), type := 3, pos := "law.go:210", after := #[{ on := 2, ground := Ground.guard }], guard := some (2, true) }) (v := undef) rfl (by kernel_rfl) (by kernel_rfl) (by kernel_rfl) (fun _ _ _ h => h) (Or.inr ⟨by rfl, rfl⟩) (by assumption) ?_
      try simp only [Act.put, List.setIfInBounds_toArray, List.set_cons_zero, List.set_cons_succ]
      refine wpAnyH_take (i := 8) (oi := { dst := some 25, op := Op.binOp BinOp.rem 3 (Operand.tmp 24) (Operand.const (Value.int IntKind.i64 8)) 3, type := 3, pos := "law.go:210", after := #[{ on := 7, ground := Ground.data }, { on := 2, ground := Ground.guard }], guard := some (2, true) }) (v := undef) rfl (by kernel_rfl) (by kernel_rfl) (by kernel_rfl) (fun _ _ _ h => h) (Or.inr ⟨by rfl, rfl⟩) (by assumption) ?_
      try simp only [Act.put, List.setIfInBounds_toArray, List.set_cons_zero, List.set_cons_succ]
      refine wpAnyH_take (i := 9) (oi := { dst := some 26, op := Op.binOp BinOp.sub 3 (Operand.const (Value.int IntKind.i64 7)) (Operand.tmp 25) 3, type := 3, pos := "law.go:210", after := #[{ on := 8, ground := Ground.data }, { on := 2, ground := Ground.guard }], guard := some (2, true) }) (v := undef) rfl (by kernel_rfl) (by kernel_rfl) (by kernel_rfl) (fun _ _ _ h => h) (Or.inr ⟨by rfl, rfl⟩) (by assumption) ?_
      try simp only [Act.put, List.setIfInBounds_toArray, List.set_cons_zero, List.set_cons_succ]
      refine wpAnyH_take (i := 10) (oi := { dst := some 27, op := Op.binOp BinOp.shr 5 (Operand.tmp 23) (Operand.tmp 26) 3, type := 5, pos := "law.go:210", after := #[{ on := 6, ground := Ground.data }, { on := 9, ground := Ground.data }, { on := 2, ground := Ground.guard }], guard := some (2, true) }) (v := undef) rfl (by kernel_rfl) (by kernel_rfl) (by kernel_rfl) (fun _ _ _ h => h) (Or.inr ⟨by rfl, rfl⟩) (by assumption) ?_
      try simp only [Act.put, List.setIfInBounds_toArray, List.set_cons_zero, List.set_cons_succ]
      refine wpAnyH_take (i := 11) (oi := { dst := some 28, op := Op.binOp BinOp.and 5 (Operand.tmp 27) (Operand.const (Value.int IntKind.u8 1)) 5, type := 5, pos := "law.go:210", after := #[{ on := 10, ground := Ground.data }, { on := 2, ground := Ground.guard }], guard := some (2, true) }) (v := undef) rfl (by kernel_rfl) (by kernel_rfl) (by kernel_rfl) (fun _ _ _ h => h) (Or.inr ⟨by rfl, rfl⟩) (by assumption) ?_
      try simp only [Act.put, List.setIfInBounds_toArray, List.set_cons_zero, List.set_cons_succ]
      refine wpAnyH_take (i := 12) (oi := { dst := some 29, op := Op.move (Operand.tmp 7), type := 3, pos := "law.go:210", after := #[{ on := 2, ground := Ground.guard }], guard := some (2, true) }) (v := undef) rfl (by kernel_rfl) (by kernel_rfl) (by kernel_rfl) (fun _ _ _ h => h) (Or.inr ⟨by rfl, rfl⟩) (by assumption) ?_
      try simp only [Act.put, List.setIfInBounds_toArray, List.set_cons_zero, List.set_cons_succ]
      refine wpAnyH_take (i := 13) (oi := { dst := some 30, op := Op.binOp BinOp.quo 3 (Operand.tmp 29) (Operand.const (Value.int IntKind.i64 8)) 3, type := 3, pos := "law.go:210", after := #[{ on := 12, ground := Ground.data }, { on := 2, ground := Ground.guard }], guard := some (2, true) }) (v := undef) rfl (by kernel_rfl) (by kernel_rfl) (by kernel_rfl) (fun _ _ _ h => h) (Or.inr ⟨by rfl, rfl⟩) (by assumption) ?_
      try simp only [Act.put, List.setIfInBounds_toArray, List.set_cons_zero, List.set_cons_succ]
      refine wpAnyH_take (i := 14) (oi := { dst := some 31, op := Op.indexAddr 22 (Operand.tmp 3) (Operand.tmp 30), type := 0, pos := "law.go:210", after := #[{ on := 13, ground := Ground.data }, { on := 2, ground := Ground.guard }], guard := some (2, true) }) (v := undef) rfl (by kernel_rfl) (by kernel_rfl) (by kernel_rfl) (fun _ _ _ h => h) (Or.inr ⟨by rfl, rfl⟩) (by assumption) ?_
      try simp only [Act.put, List.setIfInBounds_toArray, List.set_cons_zero, List.set_cons_succ]
      refine wpAnyH_take (i := 15) (oi := { dst := some 32, op := Op.load 5 (Operand.tmp 31), type := 5, pos := "law.go:210", after := #[{ on := 14, ground := Ground.data }, { on := 2, ground := Ground.guard }], guard := some (2, true) }) (v := undef) rfl (by kernel_rfl) (by kernel_rfl) (by kernel_rfl) (fun _ _ _ h => h) (Or.inr ⟨by rfl, rfl⟩) (by assumption) ?_
      try simp only [Act.put, List.setIfInBounds_toArray, List.set_cons_zero, List.set_cons_succ]
      refine wpAnyH_take (i := 16) (oi := { dst := some 33, op := Op.move (Operand.tmp 7), type := 3, pos := "law.go:210", after := #[{ on := 2, ground := Ground.guard }], guard := some (2, true) }) (v := undef) rfl (by kernel_rfl) (by kernel_rfl) (by kernel_rfl) (fun _ _ _ h => h) (Or.inr ⟨by rfl, rfl⟩) (by assumption) ?_
      try simp only [Act.put, List.setIfInBounds_toArray, List.set_cons_zero, List.set_cons_succ]
      refine wpAnyH_take (i := 17) (oi := { dst := some 34, op := Op.binOp BinOp.rem 3 (Operand.tmp 33) (Operand.const (Value.int IntKind.i64 8)) 3, type := 3, pos := "law.go:210", after := #[{ on := 16, ground := Ground.data }, { on := 2, ground := Ground.guard }], guard := some (2, true) }) (v := undef) rfl (by kernel_rfl) (by kernel_rfl) (by kernel_rfl) (fun _ _ _ h => h) (Or.inr ⟨by rfl, rfl⟩) (by assumption) ?_
      try simp only [Act.put, List.setIfInBounds_toArray, List.set_cons_zero, List.set_cons_succ]
      refine wpAnyH_take (i := 18) (oi := { dst := some 35, op := Op.binOp BinOp.sub 3 (Operand.const (Value.int IntKind.i64 7)) (Operand.tmp 34) 3, type := 3, pos := "law.go:210", after := #[{ on := 17, ground := Ground.data }, { on := 2, ground := Ground.guard }], guard := some (2, true) }) (v := undef) rfl (by kernel_rfl) (by kernel_rfl) (by kernel_rfl) (fun _ _ _ h => h) (Or.inr ⟨by rfl, rfl⟩) (by assumption) ?_
      try simp only [Act.put, List.setIfInBounds_toArray, List.set_cons_zero, List.set_cons_succ]
      refine wpAnyH_take (i := 19) (oi := { dst := some 36, op := Op.binOp BinOp.shr 5 (Operand.tmp 32) (Operand.tmp 35) 3, type := 5, pos := "law.go:210", after := #[{ on := 15, ground := Ground.data }, { on := 18, ground := Ground.data }, { on := 2, ground := Ground.guard }], guard := some (2, true) }) (v := undef) rfl (by kernel_rfl) (by kernel_rfl) (by kernel_rfl) (fun _ _ _ h => h) (Or.inr ⟨by rfl, rfl⟩) (by assumption) ?_
      try simp only [Act.put, List.setIfInBounds_toArray, List.set_cons_zero, List.set_cons_succ]
      refine wpAnyH_take (i := 20) (oi := { dst := some 37, op := Op.binOp BinOp.and 5 (Operand.tmp 36) (Operand.const (Value.int IntKind.u8 1)) 5, type := 5, pos := "law.go:210", after := #[{ on := 19, ground := Ground.data }, { on := 2, ground := Ground.guard }], guard := some (2, true) }) (v := undef) rfl (by kernel_rfl) (by kernel_rfl) (by kernel_rfl) (fun _ _ _ h => h) (Or.inr ⟨by rfl, rfl⟩) (by assumption) ?_
      try simp only [Act.put, List.setIfInBounds_toArray, List.set_cons_zero, List.set_cons_succ]
      refine wpAnyH_take (i := 21) (oi := { dst := some 38, op := Op.binOp BinOp.eql 5 (Operand.tmp 28) (Operand.tmp 37) 5, type := 4, pos := "law.go:210", after := #[{ on := 11, ground := Ground.data }, { on := 20, ground := Ground.data }, { on := 2, ground := Ground.guard }], guard := some (2, true) }) (v := undef) rfl (by kernel_rfl) (by kernel_rfl) (by kernel_rfl) (fun _ _ _ h => h) (Or.inr ⟨by rfl, rfl⟩) (by assumption) ?_
      try simp only [Act.put, List.setIfInBounds_toArray, List.set_cons_zero, List.set_cons_succ]
      refine wpAnyH_take (i := 22) (oi := { dst := some 39, op := Op.pick (Operand.tmp 19) (Operand.tmp 38) (Operand.const (Value.bool false)), type := 4, pos := "law.go:210", after := #[{ on := 2, ground := Ground.data }, { on := 21, ground := Ground.data }], guard := none }) (v := ?_) rfl (by kernel_rfl) (by kernel_rfl) (by kernel_rfl) (fun _ _ _ h => h) (Or.inl ⟨by rfl, ?_⟩) (by assumption) ?_
      rotate_left
      · (intro w hSw; (try dsimp only at hSw); go_simp) <;> with_reducible rfl
      try simp only [Act.put, List.setIfInBounds_toArray, List.set_cons_zero, List.set_cons_succ]
      refine wpAnyH_done (by kernel_rfl) ?_ _
      have HU : Hid (PBY x0 x1 x2 x3 y0 y1 y2 y3 yt wb w wr.drew) := HB9
      clear HB9
      go_wp2
      go_loopw [8] (fun vn wr => ∃ n : Nat, n ≤ 33 ∧ vn = .int .i64 (n : Int) ∧ Hid (PBY x0 x1 x2 x3 y0 y1 y2 y3 yt wb w wr)) (fun vn _ => (33 - intOf vn).toNat)
      case atStart => exact ⟨0, by omega, rfl, HU.out⟩
      case round =>
        obtain ⟨n, hn, rfl, HW⟩ := hrel
        clear HU
        by_cases hn32 : n ≤ 32
        · have hd : decide ((n : Int) ≤ 32) = true := by simp; omega
          have HD : Hid (PBY x0 x1 x2 x3 y0 y1 y2 y3 yt wb w wr.drew) := HW.out.below ⟨rfl, rfl, rfl, Nat.le_refl _, fun _ _ => rfl⟩
          have hTn := hTs n
          have HJ : Hid (M n = decide (n ≤ s)) := HKEY.out n hn32
          clear HW
          go_wp2_with fail
          refine wp_region_held_drew (S := fun w' => w'.cell? ⟨wb.heap.size, 0, none⟩ = some (.string ipB) ∧ w'.cell? ⟨wb.heap.size, 1, none⟩ = some (.string yt)) (by kernel_rfl) ?_ (fun hHeld => ?_)
          · exact HD.out.cells
          refine wpAnyH_take (i := 0) (oi := { dst := some 46, op := Op.move (Operand.tmp 5), type := 9, pos := "law.go:214", after := #[], guard := none }) (v := ?_) rfl (by kernel_rfl) (by kernel_rfl) (by kernel_rfl) (fun _ _ _ h => h) (Or.inl ⟨by rfl, ?_⟩) (by assumption) ?_
          rotate_left
          · (intro w hSw; (try dsimp only at hSw); go_simp) <;> with_reducible rfl
          try simp only [Act.put, List.setIfInBounds_toArray, List.set_cons_zero, List.set_cons_succ]
          refine wpAnyH_take (i := 1) (oi := { dst := some 47, op := Op.binOp BinOp.add 9 (Operand.tmp 46) (Operand.const (Value.string { data := #[47] })) 9, type := 9, pos := "law.go:214", after := #[{ on := 0, ground := Ground.data }], guard := none }) (v := ?_) rfl (by kernel_rfl) (by kernel_rfl) (by kernel_rfl) (fun _ _ _ h => h) (Or.inl ⟨by rfl, ?_⟩) (by assumption) ?_
          rotate_left
          · (intro w hSw; (try dsimp only at hSw); go_simp; (split <;> first | (exfalso; (try simp only [ByteArray.size_append, sl_size] at *); omega) | with_reducible rfl))
          try simp only [Act.put, List.setIfInBounds_toArray, List.set_cons_zero, List.set_cons_succ]
          refine wpAnyH_take (i := 2) (oi := { dst := some 48, op := Op.move (Operand.tmp 8), type := 3, pos := "law.go:214", after := #[], guard := none }) (v := ?_) rfl (by kernel_rfl) (by kernel_rfl) (by kernel_rfl) (fun _ _ _ h => h) (Or.inl ⟨by rfl, ?_⟩) (by assumption) ?_
          rotate_left
          · (intro w hSw; (try dsimp only at hSw); go_simp) <;> with_reducible rfl
          try simp only [Act.put, List.setIfInBounds_toArray, List.set_cons_zero, List.set_cons_succ]
          refine wpAnyH_take (i := 6) (oi := { dst := some 52, op := Op.load 25 (Operand.tmp 6), type := 25, pos := "law.go:214", after := #[], guard := none }) (v := ?_) rfl (by kernel_rfl) (by kernel_rfl) (by kernel_rfl) (fun _ _ _ h => h) (Or.inl ⟨by rfl, ?_⟩) (by assumption) ?_
          rotate_left
          · (intro w hSw; (try dsimp only at hSw); go_simp) <;> with_reducible rfl
          try simp only [Act.put, List.setIfInBounds_toArray, List.set_cons_zero, List.set_cons_succ]
          refine wpAnyH_ready (rs := [3]) (by kernel_rfl) (by simp) ?_
          refine AllReadyH.cons (o := { dst := some 49, op := Op.call { callee := Callee.value (Operand.func 6), args := #[Operand.tmp 48], argTypes := #[3] }, type := 9, pos := "law.go:214", after := #[{ on := 2, ground := Ground.data }], guard := none }) rfl (fun K hK => ?_) AllReadyH.nil
          go_simp
          refine (HNU.out n _ (by omega) HD).mono ?_
          rintro e wc ⟨rfl, HE⟩
          clear hHeld
          refine hK.out _ _ HE.out.cells (fun hHeld => ?_)
          clear hK K
          refine wpAnyH_take (i := 4) (oi := { dst := some 50, op := Op.binOp BinOp.add 9 (Operand.tmp 47) (Operand.tmp 49) 9, type := 9, pos := "law.go:214", after := #[{ on := 1, ground := Ground.data }, { on := 3, ground := Ground.data }], guard := none }) (v := ?_) rfl (by kernel_rfl) (by kernel_rfl) (by kernel_rfl) (fun _ _ _ h => h) (Or.inl ⟨by rfl, ?_⟩) (by assumption) ?_
          rotate_left
          · (intro w hSw; (try dsimp only at hSw); go_simp; (split <;> first | (exfalso; (try simp only [ByteArray.size_append, sl_size] at *); omega) | with_reducible rfl))
          try simp only [Act.put, List.setIfInBounds_toArray, List.set_cons_zero, List.set_cons_succ]
          refine wpAnyH_take (i := 5) (oi := { dst := some 51, op := Op.build 25 #[(0, Operand.const (Value.string { data := #[105, 112] })), (1, Operand.tmp 50)], type := 25, pos := "law.go:214", after := #[{ on := 4, ground := Ground.data }], guard := none }) (v := ?_) rfl (by kernel_rfl) (by kernel_rfl) (by kernel_rfl) (fun _ _ _ h => h) (Or.inl ⟨by rfl, ?_⟩) (by assumption) ?_
          rotate_left
          · (intro w hSw; (try dsimp only at hSw); go_simp) <;> with_reducible rfl
          try simp only [Act.put, List.setIfInBounds_toArray, List.set_cons_zero, List.set_cons_succ]
          refine wpAnyH_ready (rs := [7]) (by kernel_rfl) (by simp) ?_
          refine AllReadyH.cons (o := { dst := some 53, op := Op.call { callee := Callee.value (Operand.func 5), args := #[Operand.tmp 51, Operand.tmp 52], argTypes := #[25, 25] }, type := 4, pos := "law.go:214", after := #[{ on := 5, ground := Ground.data }, { on := 6, ground := Ground.data }, { on := 3, ground := Ground.chain }], guard := none }) rfl (fun K hK => ?_) AllReadyH.nil
          go_simp
          refine (HMT.out n _ hn32 HE).mono ?_
          rintro e wd ⟨rfl, HF⟩
          clear hHeld
          refine hK.out _ _ HF.out.cells (fun hHeld => ?_)
          clear hK K
          refine wpAnyH_take (i := 8) (oi := { dst := some 9, op := Op.assign (Operand.tmp 53), type := 4, pos := "law.go:214", after := #[{ on := 7, ground := Ground.data }, { on := 7, ground := Ground.chain }, { on := 0, ground := Ground.phase }, { on := 1, ground := Ground.phase }, { on := 2, ground := Ground.phase }, { on := 3, ground := Ground.phase }, { on := 4, ground := Ground.phase }, { on := 5, ground := Ground.phase }, { on := 6, ground := Ground.phase }, { on := 7, ground := Ground.phase }], guard := none }) (v := ?_) rfl (by kernel_rfl) (by kernel_rfl) (by kernel_rfl) (fun _ _ _ h => h) (Or.inl ⟨by rfl, ?_⟩) (by assumption) ?_
          rotate_left
          · (intro w hSw; (try dsimp only at hSw); go_simp) <;> with_reducible rfl
          try simp only [Act.put, List.setIfInBounds_toArray, List.set_cons_zero, List.set_cons_succ]
          refine wpAnyH_done (by kernel_rfl) ?_ _
          have hbn : decide ((n : Int) ≤ (s : Int)) = M n := by rw [HJ.out]; simp
          cases hMn : M n
          · rw [hMn] at hbn
            have hns : ¬ n ≤ s := of_decide_eq_false (HJ.out.symm.trans hMn)
            go_wp2
            go_roundw
            case rel => exact ⟨n + 1, by omega, by simp, HF.out⟩
            case measure => simp [intOf]; omega
          · rw [hMn] at hbn
            have hns : n ≤ s := of_decide_eq_true (HJ.out.symm.trans hMn)
            go_wp2
            go_roundw
            case rel => exact ⟨n + 1, by omega, by simp, HF.out⟩
            case measure => simp [intOf]; omega
        · have hd : decide ((n : Int) ≤ 32) = false := by simp; omega
          obtain ⟨cy0, cy1⟩ := HW.out.cells
          have HJ : Hid (M 32 = decide (32 ≤ s)) := HKEY.out 32 (by omega)
          go_wp2_with fail
          go_at_call 5
          refine (HMP.out _ HW).mono ?_
          rintro e we ⟨rfl, HG, cz0, cz1⟩
          have hxt33 : ¬ (9223372036854775807 < xt.size + 3) := by omega
          go_wp2_with fail
          go_at_call 5
          refine (HM3.out _ HG).mono ?_
          rintro e wf ⟨rfl, HH, cu0, cu1⟩
          have hb32 : ((s : Int) == 32) = M 32 := by
            rw [HJ.out]
            by_cases h : s = 32
            · subst h; rfl
            · rw [decide_eq_false (by omega)]; simp; omega
          cases hM32 : M 32
          · rw [hM32] at hb32
            have hns : ¬ (s : Int) = 32 := by
              intro h
              rw [h] at hb32
              exact absurd hb32 (by decide)
            go_wp2
            all_goals (go_ret; exact ⟨rfl, HH.out.1.2.2⟩)
          · rw [hM32] at hb32
            have hns : (s : Int) = 32 := by simpa using hb32
            go_wp2
            all_goals (go_ret; exact ⟨rfl, HH.out.1.2.2⟩)

end Go.Proofs.YtjhgcdjnmbfccaaDoor
