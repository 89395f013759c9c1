/- Frames in which one byte is turned, none of a length: the frame that it lies in is no more whole. No Go function is walked here. -/
import Derived.Test.YtkpdckpcnnmdkaaFrPJ
import Derived.Test.YtkpdckpcnnmdkaaDkTJ
import Derived.Test.YtkpdckpcnnmdkaaFr2J
namespace Go.Proofs.Ytkpdckpcnnmdkaa
open Go.RowKit
set_option maxRecDepth 8000

theorem sumSet (xs : List Int) (k : Nat) (y : Int) (h : k < xs.length) : (xs.set k y).sum = xs.sum - xs.getD k 0 + y := by
  induction xs generalizing k with
  | nil => simp at h
  | cons x xs ih =>
    cases k with
    | zero => simp; omega
    | succ k =>
      have := ih k (by simpa using h)
      simp [List.set_cons_succ] at this ⊢
      omega

theorem adlLow (xs : List Int) : (adl xs).1 = (1 + xs.sum) % 65521 := by
  suffices h : ∀ s : Int × Int, (xs.foldl adlStep s).1 % 65521 = (s.1 + xs.sum) % 65521 by
    have h1 := h (1, 0)
    have h2 := adl_bd xs
    unfold adl at h2 ⊢
    simp only at h1
    omega
  induction xs with
  | nil => intro s; simp
  | cons x xs ih =>
    intro s
    rw [List.foldl_cons, ih, List.sum_cons]
    simp only [adlStep]
    omega

theorem adler_turn (xs : List Int) (k : Nat) (y : Int) (hk : k < xs.length) (hb : Byts xs) (h0 : 0 ≤ y) (h1 : y ≤ 255) (hne : y ≠ xs.getD k 0) : adler xs ≠ adler (xs.set k y) := by
  have hx := hb.nth k
  have hs := sumSet xs k y hk
  have l1 := adlLow xs
  have l2 := adlLow (xs.set k y)
  have b1 := adl_bd xs
  have b2 := adl_bd (xs.set k y)
  unfold adler
  intro e
  have : (adl xs).1 = (adl (xs.set k y)).1 := by omega
  rw [l1, l2, hs] at this
  omega

theorem bodyLen_turn (b rest : List Int) (k : Nat) (y : Int) (hs : isSz b.length = true) (hb : Byts b) (h4 : 4 ≤ k) (hk : k < b.length + 9) (h0 : 0 ≤ y) (h1 : y ≤ 255) (hne : y ≠ (frameL b ++ rest).getD k 0) :
    bodyLen ((frameL b ++ rest).set k y) = 0 := by
  obtain ⟨zs, hz⟩ : ∃ zs, zs = frameL b ++ rest := ⟨_, rfl⟩
  have t4 : zs.take 4 = be4 b.length := by
    rw [hz]
    unfold frameL headL
    simp only [List.append_assoc]
    exact takeF (be4L _)
  have t8 : zs.take 8 = headL b := by
    rw [hz]
    unfold frameL
    rw [List.append_assoc]
    exact takeF (headL_len b)
  have d8 : zs.drop 8 = b ++ ([66] ++ rest) := by
    rw [hz]
    unfold frameL
    rw [List.append_assoc, dropF (headL_len b), List.append_assoc]
  have hl : zs.length = b.length + 9 + rest.length := by rw [hz, List.length_append, frameL_len]
  have hm : zs.getD (8 + b.length) 0 = 66 := by
    rw [hz]
    unfold frameL
    rw [List.getD_eq_getElem?_getD, List.append_assoc, List.getElem?_append_right (by rw [headL_len]; omega), headL_len, List.append_assoc, List.getElem?_append_right (by omega)]
    have e : 8 + b.length - 8 - b.length = 0 := by omega
    rw [e]; rfl
  rw [← hz] at hne ⊢
  have s4 : (zs.set k y).take 4 = be4 b.length := by
    rw [List.take_set_of_le h4, t4]
  unfold bodyLen
  rw [List.length_set, if_neg (by omega)]
  simp only
  rw [s4, num4, if_neg (by rw [hs]; simp; omega)]
  simp only [Int.toNat_natCast]
  rw [if_pos]
  by_cases c1 : k < 8
  · refine .inr ?_
    rw [List.drop_set_of_lt c1, d8, takeF rfl]
    intro e
    rw [← t8] at e
    have := congrArg (fun l : List Int => l.getD k 0) e
    simp only [List.getD_eq_getElem?_getD, List.getElem?_take, if_pos c1, List.getElem?_set_self (show k < zs.length by omega)] at this
    rw [List.getD_eq_getElem?_getD] at hne
    exact hne this
  · by_cases c2 : k < 8 + b.length
    · refine .inr ?_
      rw [List.take_set_of_le (by omega), t8, List.drop_set, if_neg c1, d8, List.set_append_left _ _ (by omega), takeF (by rw [List.length_set])]
      have hne' : y ≠ b.getD (k - 8) 0 := by
        have e : zs.getD k 0 = b.getD (k - 8) 0 := by
          have : zs.getD k 0 = (zs.drop 8).getD (k - 8) 0 := by
            simp only [List.getD_eq_getElem?_getD, List.getElem?_drop]
            rw [show 8 + (k - 8) = k by omega]
          rw [this, d8, List.getD_eq_getElem?_getD, List.getElem?_append_left (by omega), ← List.getD_eq_getElem?_getD]
        rw [← e]; exact hne
      have ht := adler_turn b (k - 8) y (by omega) hb h0 h1 hne'
      intro e
      unfold headL at e
      rw [List.length_set] at e
      have e2 := List.append_cancel_left e
      have := congrArg num e2
      rw [num4, num4] at this
      exact ht this
    · refine .inl ?_
      have ek : k = 8 + b.length := by omega
      subst ek
      rw [List.getD_eq_getElem?_getD, List.getElem?_set_self (by omega)]
      rw [hm] at hne
      exact hne

theorem bodies_turned : ∀ (l : List (List Int)) (n k : Nat) (y : Int), (∀ b ∈ l, isSz b.length = true ∧ Byts b) → n < l.length → pos (l.take n) + 4 ≤ k → k < pos (l.take (n + 1)) → 0 ≤ y → y ≤ 255 → y ≠ (framesL l).getD k 0 → Bodies ((framesL l).set k y) (l.take n)
  | [], n, k, y, _, hn, _, _, _, _, _ => by simp at hn
  | b :: l, 0, k, y, hs, _, hp, hk, h0, h1, hne => by
    simp only [List.take_succ_cons, List.take_zero, pos, Nat.add_zero, Nat.zero_add] at hp hk
    exact bodies_nil (bodyLen_turn b (framesL l) k y (hs b (by simp)).1 (hs b (by simp)).2 hp hk h0 h1 hne)
  | b :: l, n + 1, k, y, hs, hn, hp, hk, h0, h1, hne => by
    simp only [List.take_succ_cons, pos] at hp hk
    have hge : (frameL b).length ≤ k := by rw [frameL_len]; omega
    have hne2 : y ≠ (framesL l).getD (k - (b.length + 9)) 0 := by
      simp only [framesL, List.getD_eq_getElem?_getD] at hne ⊢
      rw [List.getElem?_append_right hge, frameL_len] at hne
      exact hne
    have ih := bodies_turned l n (k - (b.length + 9)) y (fun x hx => hs x (by simp [hx])) (by simpa using hn) (by omega) (by omega) h0 h1 hne2
    have e : (framesL (b :: l)).set k y = frameL b ++ (framesL l).set (k - (b.length + 9)) y := by
      simp only [framesL]
      rw [List.set_append_right _ _ hge, frameL_len]
    rw [List.take_succ_cons, e]
    exact bodies_cons (frameAt_front b _ (hs b (by simp)).1) (by rw [dropF (frameL_len b)]; exact ih)

end Go.Proofs.Ytkpdckpcnnmdkaa

/- A manifest as data, its bytes, and what a Put does to a disk: data alone; no Go function is walked here. -/
namespace Go.Proofs.Ytkpdckpcnnmdkaa
open Go.RowKit Go.Shelf
set_option maxRecDepth 8000

/-- A manifest. -/
structure MaD where
  boot : Int
  acc : Int
  cur : Int
  snap : Int
  log : Int

abbrev MaD.val (m : MaD) : Value := .agg #[.int .u32 m.boot, .int .u32 m.acc, .int .u32 m.cur, .int .i64 m.snap, .int .i64 m.log]

/-- Its numbers lie where their types say. -/
structure MaD.Fits (m : MaD) : Prop where
  b0 : 0 ≤ m.boot
  b1 : m.boot < 4294967296
  a0 : 0 ≤ m.acc
  a1 : m.acc < 4294967296
  c0 : 0 ≤ m.cur
  c1 : m.cur < 4294967296
  s0 : -9223372036854775808 ≤ m.snap
  s1 : m.snap ≤ 9223372036854775807
  l0 : -9223372036854775808 ≤ m.log
  l1 : m.log ≤ 9223372036854775807

/-- May it be? -/
def mayM (m : MaD) : Bool := decide (m.cur ≤ m.acc) && (decide (m.acc ≤ 2147483647) && (decide (0 ≤ m.snap) && decide (0 ≤ m.log)))

/-- The bytes of its body. -/
def maB (m : MaD) : List Int := [1] ++ (be4 m.boot ++ (be4 m.acc ++ (be4 m.cur ++ (be8 (up64 m.snap) ++ be8 (up64 m.log)))))

theorem maB_len (m : MaD) : (maB m).length = 29 := by simp [maB, be4, be8]

abbrev manN : ByteArray := ⟨#[109, 97, 110, 105, 102, 101, 115, 116]⟩
abbrev newN : ByteArray := ⟨#[109, 97, 110, 105, 102, 101, 115, 116, 46, 110, 101, 119]⟩

def thenK (r : Int × DkD) (f : DkD → Int × DkD) : Int × DkD := if r.1 = 0 then f r.2 else r

/-- What the writes of a Put do. -/
def putK (D : DkD) (bs : List Int) : Int × DkD :=
  thenK (if hasF D.files newN then D.act (D.errO newN) (D.files.eraseIdx (dropI D.files newN)) else (0, D)) fun D1 =>
  thenK (D1.act (D1.errA newN bs.length) (appF D1.files newN bs)) fun D2 =>
  thenK (D2.act (D2.errO newN) (updF D2.files newN durF)) fun D3 =>
  D3.act (D3.errR newN manN) (renF D3.files newN manN)
end Go.Proofs.Ytkpdckpcnnmdkaa

/- A manifest's bytes: put, body, mayBe, Write. -/
namespace Go.Proofs.Ytkpdckpcnnmdkaa
open Go.RowKit Go.Shelf
set_option maxRecDepth 8000

set_option maxHeartbeats 400000 in
theorem mput32 (g : Nat) (v : Value) (xs : List Int) (b : Nat) (l : List Int) (w : World) (h : IsW w g v xs) (hc : ∀ i (hi : i < l.length), w.cell? ⟨b, i, none⟩ = some (.int .u32 l[i])) (hbd : ∀ x ∈ l, 0 ≤ x ∧ x < 4294967296) (hbg : b ≠ g ∧ v.ownBlock ≠ some b) (hl : l.length ≤ 10) (hx : xs.length ≤ 1000) :
    Calls Try.prog 53 #[.func (.func 54) #[.pointer (some ⟨g, 0, none⟩)] #[], .slice (some ⟨b, 0, none⟩) l.length l.length] w fun e w' => e = .returned (.tuple #[]) ∧ Puts w g v (xs ++ (l.map be4).flatten) w' := by
  have H : Hid (IsW w g v xs ∧ ∀ i (hi : i < l.length), w.cell? ⟨b, i, none⟩ = some (.int .u32 l[i])) := ⟨h, hc⟩
  clear h hc
  go_enter Try.func53, Try.ntmps53
  go_wp2_with fail
  go_loopw [5, 8] (fun _ i wr => ∃ k : Nat, k ≤ l.length ∧ i = .int .i64 k ∧ Hid (Puts w g v (xs ++ ((l.take k).map be4).flatten) wr)) (fun _ i _ => l.length - (intOf i).toNat)
  case atStart => exact ⟨0, Nat.zero_le _, rfl, ⟨v, by simpa using H.out.1, .inl rfl, Kept.refl _ _⟩⟩
  case round =>
    obtain ⟨k, hk, rfl, HP⟩ := hrel
    by_cases hlt : k < l.length
    · obtain ⟨vk, hW, hN, hK⟩ := HP.out
      have hck : wr.cell? ⟨b, k, none⟩ = some (.int .u32 l[k]) := hK.cell (H.out.2 k hlt) (fun e => by
        rcases e with e | e
        · exact hbg.1 e
        · exact hbg.2 e)
      have HW : Hid (IsW wr g vk (xs ++ ((l.take k).map be4).flatten) ∧ NewRow w v vk ∧ Kept w wr (fun k => k = g ∨ v.ownBlock = some k)) := ⟨hW, hN, hK⟩
      have HT : Hid (((l.take (k + 1)).map be4).flatten = ((l.take k).map be4).flatten ++ be4 l[k]) := by
        show _ = _
        rw [List.take_succ_eq_append_getElem hlt, List.map_append, List.flatten_append]
        simp
      have HL : Hid ((((l.take k).map be4).flatten).length ≤ 4 * k) := by
        show _ ≤ _
        have h1 : ∀ q : List Int, ((q.map be4).flatten).length = 4 * q.length := fun q => by
          induction q with
          | nil => rfl
          | cons a r ih => simp only [List.map_cons, List.flatten_cons, List.length_append, ih, List.length_cons]; simp [be4]; omega
        rw [h1, List.length_take]
        omega
      have hxb := hbd _ (List.getElem_mem hlt)
      have hlb := World.block_lt_of_cell? wr _ hck
      clear hW hN hK HP
      generalize l[k] = x at *
      go_wp2_with fail
      refine (wUint32_any g vk _ x _ HW.out.1 hxb.1 hxb.2 (by have := HL.out; rw [List.length_append]; omega)).mono ?_
      rintro e w2 ⟨rfl, hp2⟩
      have hp3 := Puts.next HW.out.2.1 HW.out.2.2 hp2
      rw [List.append_assoc, ← HT.out] at hp3
      have HP2 : Hid (Puts w g v (xs ++ ((l.take (k + 1)).map be4).flatten) w2) := hp3
      clear hp2 hp3
      go_wp2_with fail
      go_roundw
      case rel => exact ⟨k + 1, by omega, by go_num, HP2⟩
      case measure => simp [intOf]; omega
    · obtain rfl : k = l.length := by omega
      rw [List.take_length] at HP
      go_wp2_with fail
      go_end0
      exact ⟨rfl, HP.out⟩

set_option maxHeartbeats 400000 in
theorem mput64 (g : Nat) (v : Value) (xs : List Int) (b : Nat) (l : List Int) (w : World) (h : IsW w g v xs) (hc : ∀ i (hi : i < l.length), w.cell? ⟨b, i, none⟩ = some (.int .i64 l[i])) (hbg : b ≠ g ∧ v.ownBlock ≠ some b) (hl : l.length ≤ 10) (hx : xs.length ≤ 1000) :
    Calls Try.prog 55 #[.func (.func 56) #[.pointer (some ⟨g, 0, none⟩)] #[], .slice (some ⟨b, 0, none⟩) l.length l.length] w fun e w' => e = .returned (.tuple #[]) ∧ Puts w g v (xs ++ (l.map (fun n => be8 (up64 n))).flatten) w' := by
  have H : Hid (IsW w g v xs ∧ ∀ i (hi : i < l.length), w.cell? ⟨b, i, none⟩ = some (.int .i64 l[i])) := ⟨h, hc⟩
  clear h hc
  go_enter Try.func55, Try.ntmps55
  go_wp2_with fail
  go_loopw [5, 8] (fun _ i wr => ∃ k : Nat, k ≤ l.length ∧ i = .int .i64 k ∧ Hid (Puts w g v (xs ++ ((l.take k).map (fun n => be8 (up64 n))).flatten) wr)) (fun _ i _ => l.length - (intOf i).toNat)
  case atStart => exact ⟨0, Nat.zero_le _, rfl, ⟨v, by simpa using H.out.1, .inl rfl, Kept.refl _ _⟩⟩
  case round =>
    obtain ⟨k, hk, rfl, HP⟩ := hrel
    by_cases hlt : k < l.length
    · obtain ⟨vk, hW, hN, hK⟩ := HP.out
      have hck : wr.cell? ⟨b, k, none⟩ = some (.int .i64 l[k]) := hK.cell (H.out.2 k hlt) (fun e => by
        rcases e with e | e
        · exact hbg.1 e
        · exact hbg.2 e)
      have HW : Hid (IsW wr g vk (xs ++ ((l.take k).map (fun n => be8 (up64 n))).flatten) ∧ NewRow w v vk ∧ Kept w wr (fun k => k = g ∨ v.ownBlock = some k)) := ⟨hW, hN, hK⟩
      have HT : Hid (((l.take (k + 1)).map (fun n => be8 (up64 n))).flatten = ((l.take k).map (fun n => be8 (up64 n))).flatten ++ (fun n => be8 (up64 n)) l[k]) := by
        show _ = _
        rw [List.take_succ_eq_append_getElem hlt, List.map_append, List.flatten_append]
        simp
      have HL : Hid ((((l.take k).map (fun n => be8 (up64 n))).flatten).length ≤ 8 * k) := by
        show _ ≤ _
        have h1 : ∀ q : List Int, ((q.map (fun n => be8 (up64 n))).flatten).length = 8 * q.length := fun q => by
          induction q with
          | nil => rfl
          | cons a r ih => simp only [List.map_cons, List.flatten_cons, List.length_append, ih, List.length_cons]; simp [be4, be8]; omega
        rw [h1, List.length_take]
        omega
      have hlb := World.block_lt_of_cell? wr _ hck
      clear hW hN hK HP
      generalize l[k] = x at *
      go_wp2_with fail
      refine (wInt64_any g vk _ x _ HW.out.1 (by have := HL.out; rw [List.length_append]; omega)).mono ?_
      rintro e w2 ⟨rfl, hp2⟩
      have hp3 := Puts.next HW.out.2.1 HW.out.2.2 hp2
      rw [List.append_assoc, ← HT.out] at hp3
      have HP2 : Hid (Puts w g v (xs ++ ((l.take (k + 1)).map (fun n => be8 (up64 n))).flatten) w2) := hp3
      clear hp2 hp3
      go_wp2_with fail
      go_roundw
      case rel => exact ⟨k + 1, by omega, by go_num, HP2⟩
      case measure => simp [intOf]; omega
    · obtain rfl : k = l.length := by omega
      rw [List.take_length] at HP
      go_wp2_with fail
      go_end0
      exact ⟨rfl, HP.out⟩

theorem mayBe_m (m : MaD) (w : World) : Calls Try.prog 28 #[m.val] w fun e w' => e = .returned (.bool (mayM m)) ∧ Below w.heap.size w w' := by
  obtain ⟨W, eW⟩ : ∃ W, W = w.alloc (.cells #[.int .u32 m.boot, .int .u32 m.acc, .int .u32 m.cur, .int .i64 m.snap, .int .i64 m.log] 24) := ⟨_, rfl⟩
  have HB : Hid (Below w.heap.size w W) := by rw [eW]; exact one_allocK _ _
  rw [eW] at HB
  clear eW
  unfold mayM
  by_cases h1 : m.cur ≤ m.acc
  · have d1 : decide (m.cur ≤ m.acc) = true := decide_eq_true h1
    by_cases h2 : m.acc ≤ 2147483647
    · have d2 : decide (m.acc ≤ 2147483647) = true := decide_eq_true h2
      by_cases h3 : 0 ≤ m.snap
      · have d3 : decide (0 ≤ m.snap) = true := decide_eq_true h3
        have d3' : decide (m.snap ≥ 0) = true := decide_eq_true h3
        have d4' : decide (m.log ≥ 0) = decide (0 ≤ m.log) := rfl
        rw [d1, d2, d3]
        obtain ⟨boot, acc, cur, snap, log⟩ := m
        simp only at *
        go_enter Try.func28, Try.ntmps28
        go_wp2_with fail
        go_ret
        exact ⟨by simp, HB.out⟩
      · have d3 : decide (0 ≤ m.snap) = false := decide_eq_false h3
        have d3' : decide (m.snap ≥ 0) = false := decide_eq_false h3
        rw [d1, d2, d3]
        obtain ⟨boot, acc, cur, snap, log⟩ := m
        simp only at *
        go_enter Try.func28, Try.ntmps28
        go_wp2_with fail
        go_ret
        exact ⟨by simp, HB.out⟩
    · have d2 : decide (m.acc ≤ 2147483647) = false := decide_eq_false h2
      rw [d1, d2]
      obtain ⟨boot, acc, cur, snap, log⟩ := m
      simp only at *
      go_enter Try.func28, Try.ntmps28
      go_wp2_with fail
      go_ret
      exact ⟨by simp, HB.out⟩
  · have d1 : decide (m.cur ≤ m.acc) = false := decide_eq_false h1
    rw [d1]
    obtain ⟨boot, acc, cur, snap, log⟩ := m
    simp only at *
    go_enter Try.func28, Try.ntmps28
    go_wp2_with fail
    go_ret
    exact ⟨by simp, HB.out⟩
end Go.Proofs.Ytkpdckpcnnmdkaa
