/- Two arrays of eight bytes held against each other; a frame's bytes. -/
import Derived.Test.YtdbphdllibffnaaGreatFrJ
import Derived.ChangeKeysEq
import Derived.Test.YtdbphdllibffnaaGreatWriterJ
namespace Go.Proofs.YtdbphdllibffnaaGreat
open Go.RowKit
set_option maxRecDepth 8000

theorem plainByte : Tryz.prog.plainKey 5 = true := by kernel_rfl
theorem cellsByte : Tryz.prog.cellsOf 5 = 1 := by kernel_rfl

theorem run_items (d : Nat) (xs ys : List Int) (w : World) : ∀ is : List Nat, (∀ i ∈ is, i < xs.length ∧ i < ys.length) →
    (Op.eqItems (d + 1) 5 1 (xs.map (Value.int .u8)).toArray (ys.map (Value.int .u8)).toArray is).run Tryz.prog w = .ok (is.all fun i => xs.getD i 0 == ys.getD i 0) w
  | [], _ => by simp [Op.eqItems]
  | i :: is, h => by
    obtain ⟨h1, h2⟩ := h i (by simp)
    have hx : (xs.map (Value.int .u8)).toArray[i]? = some (.int .u8 (xs.getD i 0)) := by simp [List.getD_eq_getElem?_getD, h1]
    have hy : (ys.map (Value.int .u8)).toArray[i]? = some (.int .u8 (ys.getD i 0)) := by simp [List.getD_eq_getElem?_getD, h2]
    have p1 := run_part_plain (P := Tryz.prog) w plainByte hx
    have p2 := run_part_plain (P := Tryz.prog) w plainByte hy
    have p3 := run_equalIn_int (P := Tryz.prog) w d 5 .u8 .u8 (xs.getD i 0) (ys.getD i 0) Tryz.underlying5
    have ih := run_items d xs ys w is (fun j hj => h j (by simp [hj]))
    simp only [Op.eqItems, Nat.mul_one, Sem.run_bind, p1, p2, p3, Result.andThen_ok, List.all_cons]
    cases hq : (xs.getD i 0 == ys.getD i 0)
    · simp
    · simpa using ih

theorem run_neq8 (xs ys : List Int) (hx : xs.length = 8) (hy : ys.length = 8) (w : World) :
    (binOp .neq 109 (.agg (xs.map (Value.int .u8)).toArray) (.agg (ys.map (Value.int .u8)).toArray)).run Tryz.prog w = .ok (.bool (!decide (xs = ys))) w := by
  obtain ⟨i0, hi, _⟩ := info_parts Tryz.infoByte'
  rw [run_neq_struct, run_equalIn_array (P := Tryz.prog) w 9999 _ _ Tryz.underlying109 hi, cellsByte, run_items 9998 xs ys w (List.range 8) (fun i hi => by simp at hi; omega)]
  simp only [Result.andThen_ok]
  congr 3
  rw [Bool.eq_iff_iff]
  simp only [List.all_eq_true, List.mem_range, decide_eq_true_eq, beq_iff_eq]
  constructor
  · intro h
    exact list_of_nths (by omega) (fun j hj => h j (by omega))
  · intro h i _
    rw [h]

/-- A body's frame. -/
def frameL (xs : List Int) : List Int := headL xs ++ (xs ++ [66])

theorem headL_len (xs : List Int) : (headL xs).length = 8 := by simp [headL, be4]
theorem frameL_len (xs : List Int) : (frameL xs).length = xs.length + 9 := by simp [frameL, headL_len]; omega

/-- The length of the body whose frame stands whole at the beginning; 0: none does. -/
def bodyLen (xs : List Int) : Nat :=
  if xs.length < 9 then 0 else
  let n := num (xs.take 4)
  if n > (xs.length : Int) - 9 ∨ isSz n = false then 0
  else if xs.getD (8 + n.toNat) 0 ≠ 66 ∨ xs.take 8 ≠ headL ((xs.drop 8).take n.toNat) then 0 else n.toNat

end Go.Proofs.YtdbphdllibffnaaGreat

/- Frames one behind the other, as lists of bytes: which are whole at the beginning of a text, of one that is cut off, of one in which a byte is turned. No Go function is walked here. -/
namespace Go.Proofs.YtdbphdllibffnaaGreat
open Go.RowKit
set_option maxRecDepth 8000

theorem num4 (n : Int) : num (be4 n) = n := by
  simp only [num, be4, List.foldl_cons, List.foldl_nil]
  omega

theorem bodyLen_le (xs : List Int) (h : bodyLen xs ≠ 0) : bodyLen xs + 9 ≤ xs.length := by
  unfold bodyLen at h ⊢
  by_cases h9 : xs.length < 9
  · rw [if_pos h9] at h; exact absurd rfl h
  · rw [if_neg h9] at h ⊢
    simp only at h ⊢
    by_cases h1 : num (xs.take 4) > (xs.length : Int) - 9 ∨ isSz (num (xs.take 4)) = false
    · rw [if_pos h1] at h; exact absurd rfl h
    · rw [if_neg h1] at h ⊢
      split at h
      · exact absurd rfl h
      · rename_i h2
        rw [if_neg h2]
        omega

theorem bodyLen_size (xs : List Int) (h : bodyLen xs ≠ 0) : isSz (bodyLen xs) = true := by
  unfold bodyLen at h ⊢
  by_cases h9 : xs.length < 9
  · rw [if_pos h9] at h; exact absurd rfl h
  · rw [if_neg h9] at h ⊢
    simp only at h ⊢
    by_cases h1 : num (xs.take 4) > (xs.length : Int) - 9 ∨ isSz (num (xs.take 4)) = false
    · rw [if_pos h1] at h; exact absurd rfl h
    · rw [if_neg h1] at h ⊢
      split at h
      · exact absurd rfl h
      · rename_i h2
        rw [if_neg h2]
        have : isSz (num (xs.take 4)) = true := by
          cases hq : isSz (num (xs.take 4))
          · exact absurd (.inr hq) h1
          · rfl
        rw [Int.toNat_of_nonneg (by simp [isSz] at this; omega)]
        exact this

theorem takeF {a b : List Int} {n : Nat} (h : a.length = n) : (a ++ b).take n = a := by subst h; simp
theorem dropF {a b : List Int} {n : Nat} (h : a.length = n) : (a ++ b).drop n = b := by subst h; simp
theorem be4L (n : Int) : (be4 n).length = 4 := rfl

theorem bodyLen_frame (b rest : List Int) (hs : isSz b.length = true) : bodyLen (frameL b ++ rest) = b.length := by
  have h4 : (frameL b ++ rest).take 4 = be4 b.length := by
    unfold frameL headL
    simp only [List.append_assoc]
    exact takeF (be4L _)
  have h8 : (frameL b ++ rest).take 8 = headL b := by
    unfold frameL
    rw [List.append_assoc]
    exact takeF (headL_len b)
  have h8' : (frameL b ++ rest).drop 8 = b ++ ([66] ++ rest) := by
    unfold frameL
    rw [List.append_assoc, dropF (headL_len b), List.append_assoc]
  have hl : (frameL b ++ rest).length = b.length + 9 + rest.length := by rw [List.length_append, frameL_len]
  have hm : (frameL b ++ rest).getD (8 + b.length) 0 = 66 := by
    unfold frameL
    rw [List.getD_eq_getElem?_getD, List.append_assoc, List.getElem?_append_right (by rw [headL_len]; omega), headL_len, List.append_assoc, List.getElem?_append_right (by omega)]
    have e : 8 + b.length - 8 - b.length = 0 := by omega
    rw [e]; rfl
  unfold bodyLen
  rw [if_neg (by omega)]
  simp only
  rw [h4, num4, if_neg (by rw [hs, hl]; simp; omega)]
  simp only [Int.toNat_natCast]
  rw [hm, h8, h8', takeF rfl, if_neg (by simp)]

end Go.Proofs.YtdbphdllibffnaaGreat

/- Frames in which one byte is turned, none of a length: the frame that it lies in is no more whole. No Go function is walked here. -/
namespace Go.Proofs.YtdbphdllibffnaaGreat
open Go.RowKit
set_option maxRecDepth 8000

end Go.Proofs.YtdbphdllibffnaaGreat

/- A manifest as data, its bytes, and what a Put does to a disk: data alone; no Go function is walked here. -/
namespace Go.Proofs.YtdbphdllibffnaaGreat
open Go.RowKit Go.Shelf
set_option maxRecDepth 8000

/-- A manifest. -/
structure MaD where
  boot : Int
  acc : Int
  cur : Int
  snap : Int
  log : Int

abbrev MaD.val (m : MaD) : Value := .agg #[.int .u32 m.boot, .int .u32 m.acc, .int .u32 m.cur, .int .i64 m.snap, .int .i64 m.log]

/-- Its numbers lie where their types say. -/
structure MaD.Fits (m : MaD) : Prop where
  b0 : 0 ≤ m.boot
  b1 : m.boot < 4294967296
  a0 : 0 ≤ m.acc
  a1 : m.acc < 4294967296
  c0 : 0 ≤ m.cur
  c1 : m.cur < 4294967296
  s0 : -9223372036854775808 ≤ m.snap
  s1 : m.snap ≤ 9223372036854775807
  l0 : -9223372036854775808 ≤ m.log
  l1 : m.log ≤ 9223372036854775807

/-- May it be? -/
def mayM (m : MaD) : Bool := decide (m.cur ≤ m.acc) && (decide (m.acc ≤ 2147483647) && (decide (0 ≤ m.snap) && decide (0 ≤ m.log)))

/-- The bytes of its body. -/
def maB (m : MaD) : List Int := [1] ++ (be4 m.boot ++ (be4 m.acc ++ (be4 m.cur ++ (be8 (up64 m.snap) ++ be8 (up64 m.log)))))

theorem maB_len (m : MaD) : (maB m).length = 29 := by simp [maB, be4, be8]

abbrev manN : ByteArray := ⟨#[109, 97, 110, 105, 102, 101, 115, 116]⟩
abbrev newN : ByteArray := ⟨#[109, 97, 110, 105, 102, 101, 115, 116, 46, 110, 101, 119]⟩

def thenK (r : Int × DkD) (f : DkD → Int × DkD) : Int × DkD := if r.1 = 0 then f r.2 else r

end Go.Proofs.YtdbphdllibffnaaGreat

/- A manifest's bytes: put, body, mayBe, Write. -/
namespace Go.Proofs.YtdbphdllibffnaaGreat
open Go.RowKit Go.Shelf
set_option maxRecDepth 8000

set_option maxHeartbeats 400000 in
theorem mput32 (g : Nat) (v : Value) (xs : List Int) (b : Nat) (l : List Int) (w : World) (h : IsW w g v xs) (hc : ∀ i (hi : i < l.length), w.cell? ⟨b, i, none⟩ = some (.int .u32 l[i])) (hbd : ∀ x ∈ l, 0 ≤ x ∧ x < 4294967296) (hbg : b ≠ g ∧ v.ownBlock ≠ some b) (hl : l.length ≤ 10) (hx : xs.length ≤ 1000) :
    Calls Tryz.prog 78 #[.func (.func 79) #[.pointer (some ⟨g, 0, none⟩)] #[], .slice (some ⟨b, 0, none⟩) l.length l.length] w fun e w' => e = .returned (.tuple #[]) ∧ Puts w g v (xs ++ (l.map be4).flatten) w' := by
  have H : Hid (IsW w g v xs ∧ ∀ i (hi : i < l.length), w.cell? ⟨b, i, none⟩ = some (.int .u32 l[i])) := ⟨h, hc⟩
  clear h hc
  go_enter Tryz.func78, Tryz.ntmps78
  go_wp2_with fail
  go_loopw [5, 8] (fun _ i wr => ∃ k : Nat, k ≤ l.length ∧ i = .int .i64 k ∧ Hid (Puts w g v (xs ++ ((l.take k).map be4).flatten) wr)) (fun _ i _ => l.length - (intOf i).toNat)
  case atStart => exact ⟨0, Nat.zero_le _, rfl, ⟨v, by simpa using H.out.1, .inl rfl, Kept.refl _ _⟩⟩
  case round =>
    obtain ⟨k, hk, rfl, HP⟩ := hrel
    by_cases hlt : k < l.length
    · obtain ⟨vk, hW, hN, hK⟩ := HP.out
      have hck : wr.cell? ⟨b, k, none⟩ = some (.int .u32 l[k]) := hK.cell (H.out.2 k hlt) (fun e => by
        rcases e with e | e
        · exact hbg.1 e
        · exact hbg.2 e)
      have HW : Hid (IsW wr g vk (xs ++ ((l.take k).map be4).flatten) ∧ NewRow w v vk ∧ Kept w wr (fun k => k = g ∨ v.ownBlock = some k)) := ⟨hW, hN, hK⟩
      have HT : Hid (((l.take (k + 1)).map be4).flatten = ((l.take k).map be4).flatten ++ be4 l[k]) := by
        show _ = _
        rw [List.take_succ_eq_append_getElem hlt, List.map_append, List.flatten_append]
        simp
      have HL : Hid ((((l.take k).map be4).flatten).length ≤ 4 * k) := by
        show _ ≤ _
        have h1 : ∀ q : List Int, ((q.map be4).flatten).length = 4 * q.length := fun q => by
          induction q with
          | nil => rfl
          | cons a r ih => simp only [List.map_cons, List.flatten_cons, List.length_append, ih, List.length_cons]; simp [be4]; omega
        rw [h1, List.length_take]
        omega
      have hxb := hbd _ (List.getElem_mem hlt)
      have hlb := World.block_lt_of_cell? wr _ hck
      clear hW hN hK HP
      generalize l[k] = x at *
      go_wp2_with fail
      refine (wUint32_any g vk _ x _ HW.out.1 hxb.1 hxb.2 (by have := HL.out; rw [List.length_append]; omega)).mono ?_
      rintro e w2 ⟨rfl, hp2⟩
      have hp3 := Puts.next HW.out.2.1 HW.out.2.2 hp2
      rw [List.append_assoc, ← HT.out] at hp3
      have HP2 : Hid (Puts w g v (xs ++ ((l.take (k + 1)).map be4).flatten) w2) := hp3
      clear hp2 hp3
      go_wp2_with fail
      go_roundw
      case rel => exact ⟨k + 1, by omega, by go_num, HP2⟩
      case measure => simp [intOf]; omega
    · obtain rfl : k = l.length := by omega
      rw [List.take_length] at HP
      go_wp2_with fail
      go_end0
      exact ⟨rfl, HP.out⟩

set_option maxHeartbeats 400000 in
theorem mput64 (g : Nat) (v : Value) (xs : List Int) (b : Nat) (l : List Int) (w : World) (h : IsW w g v xs) (hc : ∀ i (hi : i < l.length), w.cell? ⟨b, i, none⟩ = some (.int .i64 l[i])) (hbg : b ≠ g ∧ v.ownBlock ≠ some b) (hl : l.length ≤ 10) (hx : xs.length ≤ 1000) :
    Calls Tryz.prog 80 #[.func (.func 81) #[.pointer (some ⟨g, 0, none⟩)] #[], .slice (some ⟨b, 0, none⟩) l.length l.length] w fun e w' => e = .returned (.tuple #[]) ∧ Puts w g v (xs ++ (l.map (fun n => be8 (up64 n))).flatten) w' := by
  have H : Hid (IsW w g v xs ∧ ∀ i (hi : i < l.length), w.cell? ⟨b, i, none⟩ = some (.int .i64 l[i])) := ⟨h, hc⟩
  clear h hc
  go_enter Tryz.func80, Tryz.ntmps80
  go_wp2_with fail
  go_loopw [5, 8] (fun _ i wr => ∃ k : Nat, k ≤ l.length ∧ i = .int .i64 k ∧ Hid (Puts w g v (xs ++ ((l.take k).map (fun n => be8 (up64 n))).flatten) wr)) (fun _ i _ => l.length - (intOf i).toNat)
  case atStart => exact ⟨0, Nat.zero_le _, rfl, ⟨v, by simpa using H.out.1, .inl rfl, Kept.refl _ _⟩⟩
  case round =>
    obtain ⟨k, hk, rfl, HP⟩ := hrel
    by_cases hlt : k < l.length
    · obtain ⟨vk, hW, hN, hK⟩ := HP.out
      have hck : wr.cell? ⟨b, k, none⟩ = some (.int .i64 l[k]) := hK.cell (H.out.2 k hlt) (fun e => by
        rcases e with e | e
        · exact hbg.1 e
        · exact hbg.2 e)
      have HW : Hid (IsW wr g vk (xs ++ ((l.take k).map (fun n => be8 (up64 n))).flatten) ∧ NewRow w v vk ∧ Kept w wr (fun k => k = g ∨ v.ownBlock = some k)) := ⟨hW, hN, hK⟩
      have HT : Hid (((l.take (k + 1)).map (fun n => be8 (up64 n))).flatten = ((l.take k).map (fun n => be8 (up64 n))).flatten ++ (fun n => be8 (up64 n)) l[k]) := by
        show _ = _
        rw [List.take_succ_eq_append_getElem hlt, List.map_append, List.flatten_append]
        simp
      have HL : Hid ((((l.take k).map (fun n => be8 (up64 n))).flatten).length ≤ 8 * k) := by
        show _ ≤ _
        have h1 : ∀ q : List Int, ((q.map (fun n => be8 (up64 n))).flatten).length = 8 * q.length := fun q => by
          induction q with
          | nil => rfl
          | cons a r ih => simp only [List.map_cons, List.flatten_cons, List.length_append, ih, List.length_cons]; simp [be4, be8]; omega
        rw [h1, List.length_take]
        omega
      have hlb := World.block_lt_of_cell? wr _ hck
      clear hW hN hK HP
      generalize l[k] = x at *
      go_wp2_with fail
      refine (wInt64_any g vk _ x _ HW.out.1 (by have := HL.out; rw [List.length_append]; omega)).mono ?_
      rintro e w2 ⟨rfl, hp2⟩
      have hp3 := Puts.next HW.out.2.1 HW.out.2.2 hp2
      rw [List.append_assoc, ← HT.out] at hp3
      have HP2 : Hid (Puts w g v (xs ++ ((l.take (k + 1)).map (fun n => be8 (up64 n))).flatten) w2) := hp3
      clear hp2 hp3
      go_wp2_with fail
      go_roundw
      case rel => exact ⟨k + 1, by omega, by go_num, HP2⟩
      case measure => simp [intOf]; omega
    · obtain rfl : k = l.length := by omega
      rw [List.take_length] at HP
      go_wp2_with fail
      go_end0
      exact ⟨rfl, HP.out⟩

theorem mayBe_m (m : MaD) (w : World) : Calls Tryz.prog 38 #[m.val] w fun e w' => e = .returned (.bool (mayM m)) ∧ Below w.heap.size w w' := by
  obtain ⟨W, eW⟩ : ∃ W, W = w.alloc (.cells #[.int .u32 m.boot, .int .u32 m.acc, .int .u32 m.cur, .int .i64 m.snap, .int .i64 m.log] 35) := ⟨_, rfl⟩
  have HB : Hid (Below w.heap.size w W) := by rw [eW]; exact one_allocK _ _
  rw [eW] at HB
  clear eW
  unfold mayM
  by_cases h1 : m.cur ≤ m.acc
  · have d1 : decide (m.cur ≤ m.acc) = true := decide_eq_true h1
    by_cases h2 : m.acc ≤ 2147483647
    · have d2 : decide (m.acc ≤ 2147483647) = true := decide_eq_true h2
      by_cases h3 : 0 ≤ m.snap
      · have d3 : decide (0 ≤ m.snap) = true := decide_eq_true h3
        have d3' : decide (m.snap ≥ 0) = true := decide_eq_true h3
        have d4' : decide (m.log ≥ 0) = decide (0 ≤ m.log) := rfl
        rw [d1, d2, d3]
        obtain ⟨boot, acc, cur, snap, log⟩ := m
        simp only at *
        go_enter Tryz.func38, Tryz.ntmps38
        go_wp2_with fail
        go_ret
        exact ⟨by simp, HB.out⟩
      · have d3 : decide (0 ≤ m.snap) = false := decide_eq_false h3
        have d3' : decide (m.snap ≥ 0) = false := decide_eq_false h3
        rw [d1, d2, d3]
        obtain ⟨boot, acc, cur, snap, log⟩ := m
        simp only at *
        go_enter Tryz.func38, Tryz.ntmps38
        go_wp2_with fail
        go_ret
        exact ⟨by simp, HB.out⟩
    · have d2 : decide (m.acc ≤ 2147483647) = false := decide_eq_false h2
      rw [d1, d2]
      obtain ⟨boot, acc, cur, snap, log⟩ := m
      simp only at *
      go_enter Tryz.func38, Tryz.ntmps38
      go_wp2_with fail
      go_ret
      exact ⟨by simp, HB.out⟩
  · have d1 : decide (m.cur ≤ m.acc) = false := decide_eq_false h1
    rw [d1]
    obtain ⟨boot, acc, cur, snap, log⟩ := m
    simp only at *
    go_enter Tryz.func38, Tryz.ntmps38
    go_wp2_with fail
    go_ret
    exact ⟨by simp, HB.out⟩
end Go.Proofs.YtdbphdllibffnaaGreat
