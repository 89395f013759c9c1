/- What the rest of the Reader's calls do: Bool, Int8, Uint32, Int64, Float, Buffer, Raw, Fail and End. -/
import Derived.Test.YtiakjeomedijkaaGreatDoorDbl3J
import Derived.Laws.Externs
import Derived.WalkLawsBesides
import Derived.Test.YtiakjeomedijkaaGreatDoorProg
import Derived.Test.YtiakjeomedijkaaGreatDoorWriterJ
import Derived.Test.YtiakjeomedijkaaGreatDoorReaderJ
import Derived.Laws.Cover3
import Derived.Laws.CopyOwn
import Derived.ChangeKeysEq
namespace Go.Proofs.YtiakjeomedijkaaGreatDoor
open Go.RowKit
set_option maxRecDepth 8000

section
variable (g : Nat) (v : Value) (xs : List Int) (f : Int) (w : World)

set_option maxHeartbeats 400000 in
theorem rUint32_any (h : IsR w g v xs f) (hb : Byts xs) :
    Calls Tryz.prog 89 #[.pointer (some ⟨g, 0, none⟩)] w fun e w' => e = .returned (.int .u32 (rdNum 4 xs f).out) ∧ ReadsTo w g v (rdNum 4 xs f) w' := by
  have hbd := rdNum_bd 4 xs f hb
  have h4 : (256 : Int) ^ 4 = 4294967296 := by decide
  rw [h4] at hbd
  have b1 := hbd.1
  have b2 := hbd.2
  have H : Hid (IsR w g v xs f ∧ Byts xs) := ⟨h, hb⟩
  clear h hb h4 hbd
  go_enter Tryz.func89, Tryz.ntmps89
  go_wp2_with fail
  refine (rNumber_any g v xs f 4 _ H.out.1 H.out.2 (by omega)).mono ?_
  rintro e w1 ⟨rfl, hr⟩
  have HR : Hid (ReadsTo w g v (rdNum 4 xs f) w1) := hr
  clear hr
  go_wp2
  go_ret
  exact ⟨rfl, HR.out⟩

set_option maxHeartbeats 400000 in
theorem rInt64_any (h : IsR w g v xs f) (hb : Byts xs) :
    Calls Tryz.prog 91 #[.pointer (some ⟨g, 0, none⟩)] w fun e w' => e = .returned (.int .i64 (wrap64 (rdNum 8 xs f).out)) ∧ ReadsTo w g v (rdNum 8 xs f) w' := by
  have H : Hid (IsR w g v xs f ∧ Byts xs) := ⟨h, hb⟩
  clear h hb
  go_enter Tryz.func91, Tryz.ntmps91
  go_wp2_with fail
  refine (rNumber_any g v xs f 8 _ H.out.1 H.out.2 (by omega)).mono ?_
  rintro e w1 ⟨rfl, hr⟩
  have HR : Hid (ReadsTo w g v (rdNum 8 xs f) w1) := hr
  clear hr
  go_wp2
  go_ret
  exact ⟨rfl, HR.out⟩

set_option maxHeartbeats 400000 in
theorem rInt8_any (h : IsR w g v xs f) (hb : Byts xs) :
    Calls Tryz.prog 43 #[.pointer (some ⟨g, 0, none⟩)] w fun e w' => e = .returned (.int .i8 (IntKind.i8.wrap (rdNum 1 xs f).out)) ∧ ReadsTo w g v (rdNum 1 xs f) w' := by
  have H : Hid (IsR w g v xs f ∧ Byts xs) := ⟨h, hb⟩
  clear h hb
  go_enter Tryz.func43, Tryz.ntmps43
  go_wp2_with fail
  refine (rNumber_any g v xs f 1 _ H.out.1 H.out.2 (by omega)).mono ?_
  rintro e w1 ⟨rfl, hr⟩
  have HR : Hid (ReadsTo w g v (rdNum 1 xs f) w1) := hr
  clear hr
  go_wp2
  go_ret
  exact ⟨rfl, HR.out⟩

/-- A truth: by the document. -/
def rdBool (xs : List Int) (f : Int) : Rd :=
  if f ≠ 0 then ⟨0, xs, f⟩ else if xs.length < 1 then ⟨0, xs, 10⟩ else if 1 < xs.getD 0 0 then ⟨0, xs, 12⟩ else ⟨xs.getD 0 0, xs.drop 1, 0⟩

theorem rEnd_any (h : IsR w g v xs f) :
    Calls Tryz.prog 45 #[.pointer (some ⟨g, 0, none⟩)] w fun e w' => e = .returned (.int .i64 (if f ≠ 0 then f else if xs = [] then 0 else 13)) ∧ w' = w := by
  have h1 := h.c1
  have H : Hid (IsR w g v xs f) := h
  obtain ⟨ao, cap, rfl, q1, q2, _, _⟩ := h.2
  unfold maxLen at q2
  clear h
  by_cases hf : f = 0
  · subst hf
    rw [if_neg (by simp)]
    by_cases hx : xs = []
    · rw [if_pos hx]
      have hl : xs.length = 0 := by rw [hx]; rfl
      clear hx
      have hl' : ¬ (0 : Int) < (xs.length : Int) := by omega
      have HL : Hid (xs.length = 0) := hl
      clear hl
      go_enter Tryz.func45, Tryz.ntmps45
      go_wp2_with fail
      refine (rErr_any g _ xs 0 _ H.out).mono ?_
      rintro e w1 ⟨rfl, rfl⟩
      go_wp2
      go_ret
      exact ⟨rfl, rfl⟩
    · rw [if_neg hx]
      have hl : 0 < xs.length := List.length_pos_iff.2 hx
      clear hx
      go_enter Tryz.func45, Tryz.ntmps45
      go_wp2_with fail
      refine (rErr_any g _ xs 0 _ H.out).mono ?_
      rintro e w1 ⟨rfl, rfl⟩
      go_wp2
      go_ret
      exact ⟨rfl, rfl⟩
  · rw [if_pos hf]
    have hf' : (f != 0) = true := by simp [hf]
    clear hf
    go_enter Tryz.func45, Tryz.ntmps45
    go_wp2_with fail
    refine (rErr_any g _ xs f _ H.out).mono ?_
    rintro e w1 ⟨rfl, rfl⟩
    go_wp2
    go_ret
    exact ⟨rfl, rfl⟩

/-- Raw bytes, a buffer: by the document: what is answered, what is left, the fault. -/
def rdRaw (n : Int) (xs : List Int) (f : Int) : List Int × Rd :=
  if f ≠ 0 then ([], ⟨0, xs, f⟩) else if n < 0 then ([], ⟨0, xs, 11⟩) else if (xs.length : Int) < n then ([], ⟨0, xs, 10⟩) else (xs.take n.toNat, ⟨0, xs.drop n.toNat, 0⟩)

/-- A slice that a Reader answers: it leads to the bytes; it has no spare room; it lies in the Reader's own row, or nowhere. -/
def Cut (w : World) (v u : Value) (ys : List Int) : Prop := Sees w u ys ∧ (∃ ao, u = .slice ao ys.length ys.length) ∧ ∀ k, u.ownBlock = some k → v.ownBlock = some k

theorem cut_nil (w : World) (v : Value) : Cut w v (.slice none 0 0) [] := ⟨sees_nil w, ⟨none, rfl⟩, fun k hk => by simp [Value.ownBlock] at hk⟩

set_option maxHeartbeats 400000 in
theorem rTake_any (n : Int) (h : IsR w g v xs f) :
    Calls Tryz.prog 115 #[.pointer (some ⟨g, 0, none⟩), .int .i64 n] w fun e w' => ∃ u, e = .returned u ∧ Cut w' v u (rdRaw n xs f).1 ∧ ReadsTo w g v (rdRaw n xs f).2 w' := by
  by_cases hf : f = 0
  · subst hf
    by_cases hn : n < 0
    · have e1 : rdRaw n xs 0 = ([], ⟨0, xs, 11⟩) := by unfold rdRaw; rw [if_neg (by simp), if_pos hn]
      rw [e1]
      refine (rTake_neg g v xs n w h hn).mono ?_
      rintro e w1 ⟨rfl, rfl⟩
      exact ⟨_, rfl, cut_nil _ _, ReadsTo.fail h 11⟩
    · obtain ⟨k, rfl⟩ := Int.eq_ofNat_of_zero_le (show 0 ≤ n by omega)
      by_cases hl : (xs.length : Int) < k
      · have e1 : rdRaw k xs 0 = ([], ⟨0, xs, 10⟩) := by unfold rdRaw; rw [if_neg (by simp), if_neg hn, if_pos hl]
        rw [e1]
        refine (rTake_short g v xs k w h (by omega)).mono ?_
        rintro e w1 ⟨rfl, rfl⟩
        exact ⟨_, rfl, cut_nil _ _, ReadsTo.fail h 10⟩
      · have e1 : rdRaw k xs 0 = (xs.take k, ⟨0, xs.drop k, 0⟩) := by unfold rdRaw; rw [if_neg (by simp), if_neg hn, if_neg hl, Int.toNat_natCast]
        rw [e1]
        refine (rTake_ok g v xs k w h (by omega)).mono ?_
        rintro e w1 ⟨ao, rfl, hs, ⟨l, c, hv⟩, rfl⟩
        have hlen : (xs.take k).length = k := by simp; omega
        refine ⟨_, rfl, ⟨hs.set _ _ (fun hx e => ?_), ⟨ao, by rw [hlen]⟩, fun j hj => ?_⟩, ReadsTo.skip h (by omega)⟩
        · have := h.apart (fun e2 => hx (by rw [e2]; simp))
          rw [hv] at this
          cases ao with
          | none => simp [Value.ownBlock] at e
          | some a => exact this (by simpa [Value.ownBlock] using e)
        · rw [hv]
          cases ao with
          | none => simp [Value.ownBlock] at hj
          | some a => simpa [Value.ownBlock] using hj
  · have e1 : rdRaw n xs f = ([], ⟨0, xs, f⟩) := by unfold rdRaw; rw [if_pos hf]
    rw [e1]
    refine (rTake_fault g v xs n f w h hf).mono ?_
    rintro e w1 ⟨rfl, rfl⟩
    exact ⟨_, rfl, cut_nil _ _, ReadsTo.stay h⟩

/-- A buffer, a text: by the document. -/
def rdBuf (most : Int) (xs : List Int) (f : Int) : List Int × Rd :=
  if f ≠ 0 then ([], ⟨0, xs, f⟩) else if xs.length < 4 then ([], ⟨0, xs, 10⟩) else if ahead xs < 0 ∨ most < ahead xs then ([], ⟨0, xs, 11⟩)
  else if (xs.length : Int) - 4 < ahead xs then ([], ⟨0, xs, 10⟩) else ((xs.drop 4).take (ahead xs).toNat, ⟨0, (xs.drop 4).drop (ahead xs).toNat, 0⟩)

end
end Go.Proofs.YtiakjeomedijkaaGreatDoor
/- What pack.Sum and EqBytes of lagoonref00 answer: the Adler-32 sum of the bytes that are given; whether two lists of bytes are the same. -/
namespace Go.Proofs.YtiakjeomedijkaaGreatDoor
open Go.RowKit
set_option maxRecDepth 8000

set_option maxHeartbeats 400000 in
theorem packSum_any (v : Value) (xs : List Int) (w : World) (h : Sees w v xs) (hb : Byts xs) :
    Calls Tryz.prog 107 #[v] w fun e w' => e = .returned (.int .u32 (adler xs)) ∧ w' = w := by
  obtain ⟨ao, cap, rfl, hlc, hcm, _, h3⟩ := h
  unfold maxLen at hcm
  go_enter Tryz.func107, Tryz.ntmps107
  go_wp2
  go_loop [3, 4, 9] (fun lo hi i => ∃ k : Nat, k ≤ xs.length ∧ i = .int .i64 k ∧ lo = .int .u32 (adl (xs.take k)).1 ∧ hi = .int .u32 (adl (xs.take k)).2) (fun _ _ i => xs.length - (intOf i).toNat)
  case atStart => exact ⟨0, Nat.zero_le _, rfl, rfl, rfl⟩
  case round =>
    obtain ⟨k, hk, rfl, rfl, rfl⟩ := hrel
    have hd := adl_bd (xs.take k)
    by_cases hlt : k < xs.length
    · rcases h3 with h3 | ⟨b, off, rfl, h3⟩
      · subst h3; simp at hlt
      · have hc := h3 k hlt
        have hx := hb.nth k
        have HS : Hid _ := adl_next xs k hlt
        generalize xs.getD k 0 = x at *
        generalize hA : (adl (xs.take k)).1 = A at *
        generalize hB : (adl (xs.take k)).2 = B at *
        clear hA hB h3 hb
        go_wp2
        go_round
        case rel => exact ⟨k + 1, by omega, by go_num, by rw [HS.out.1], by rw [HS.out.2]⟩
        case measure => simp [intOf]; omega
    · obtain rfl : k = xs.length := by omega
      rw [List.take_length] at *
      go_wp2
      go_ret
      exact ⟨ret_int (adler_bits xs), rfl⟩

set_option maxHeartbeats 400000 in
theorem eqBytes_any (v u : Value) (xs ys : List Int) (w : World) (h : Sees w v xs) (g : Sees w u ys) :
    Calls Tryz.prog 7 #[v, u] w fun e w' => e = .returned (.bool (decide (xs = ys))) ∧ ∃ n, w' = w.drewN n := by
  obtain ⟨ao, cap, rfl, hlc, hcm, _, h3⟩ := h
  obtain ⟨bo, cbp, rfl, glc, gcm, _, g3⟩ := g
  unfold maxLen at hcm gcm
  by_cases hl : xs.length = ys.length
  · have hl1 : xs.length ≤ ys.length := by omega
    have hl2 : ys.length ≤ xs.length := by omega
    have hn0 : ((xs.length : Int) != (ys.length : Int)) = false := by simp; omega
    clear hl
    go_enter Tryz.func7, Tryz.ntmps7
    go_wp2
    go_loopw [5] (fun i wr => ∃ k m : Nat, k ≤ xs.length ∧ i = .int .i64 k ∧ xs.take k = ys.take k ∧ wr = w.drewN m) (fun i _ => xs.length - (intOf i).toNat)
    case atStart => exact ⟨0, 0, Nat.zero_le _, rfl, rfl, rfl⟩
    case round =>
      obtain ⟨k, m, hk, rfl, heq, rfl⟩ := hrel
      have HE : Hid _ := heq
      clear heq
      by_cases hlt : k < xs.length
      · rcases h3 with h3 | ⟨b, off, rfl, h3⟩
        · subst h3; simp at hlt
        · rcases g3 with g3 | ⟨b', off', rfl, g3⟩
          · have : ys.length = 0 := by rw [g3]; rfl
            omega
          · have hlt' : k < ys.length := by omega
            have hc := h3 k hlt
            have gc := g3 k hlt'
            have HN : Hid _ := take_next_eq hlt hlt' HE.out
            have HD : Hid _ := ne_of_nth (xs := xs) (ys := ys) k
            clear h3 g3
            generalize xs.getD k 0 = x at *
            generalize ys.getD k 0 = y at *
            by_cases hxy : x = y
            · subst hxy
              go_wp2
              go_region
              all_goals go_wp2
              all_goals go_roundw
              case rel => exact ⟨k + 1, _, by omega, by go_num, HN.out trivial, rfl⟩
              case measure => simp [intOf]; omega
            · have hne : (x != y) = true := by simp [hxy]
              clear hxy
              go_wp2
              go_region
              all_goals go_wp2
              all_goals go_ret
              have hxy : x ≠ y := by simpa using hne
              exact ⟨by rw [decide_eq_false (HD.out hxy)]; rfl, _, rfl⟩
      · have he : xs = ys := by
          have := HE.out
          rw [List.take_of_length_le (by omega), List.take_of_length_le (by omega)] at this
          exact this
        subst he
        go_wp2
        go_ret
        exact ⟨by simp, _, rfl⟩
  · have hn : ((xs.length : Int) != (ys.length : Int)) = true := by simp; omega
    have hq : xs ≠ ys := fun e => hl (by rw [e])
    have HQ : Hid _ := hq
    clear hl hq
    go_enter Tryz.func7, Tryz.ntmps7
    go_wp2
    go_ret
    exact ⟨by rw [decide_eq_false HQ.out]; rfl, 0, rfl⟩

end Go.Proofs.YtiakjeomedijkaaGreatDoor

/- What the statements' own first look 'works' answers: true; nothing that was there before is changed. -/
namespace Go.Proofs.YtiakjeomedijkaaGreatDoor
open Go.RowKit
set_option maxRecDepth 8000

theorem byts_lit {xs : List Int} (h : xs.all (fun x => decide (0 ≤ x ∧ x ≤ 255)) = true) : Byts xs := fun x hx => by
  have := List.all_eq_true.1 h x hx
  simpa using this

theorem below_writer {B : Nat} {w w' : World} {g : Nat} {v : Value} (h : Kept w w' (fun k => k = g ∨ v.ownBlock = some k)) (hB : B ≤ w.heap.size) (hg : B ≤ g) (hv : ∀ k, v.ownBlock = some k → B ≤ k) : Below B w w' := by
  refine h.below hB (fun k hk => ?_)
  rcases hk with hk | hk
  · omega
  · exact hv k hk

theorem below_reader {B : Nat} {w w' : World} {g : Nat} (h : Kept w w' (· = g)) (hB : B ≤ w.heap.size) (hg : B ≤ g) : Below B w w' :=
  h.below hB (fun k hk => by omega)

theorem works_e1 : rdNum 4 [255, 255, 255, 254, 9] 0 = ⟨4294967294, [9], 0⟩ := by simp [rdNum, num]
theorem works_e2 : down32 4294967294 = -2 := by rw [down32_is _ (by omega) (by omega)]; simp
theorem works_e3 : adler [97, 98, 99] = 38600999 := by decide

end Go.Proofs.YtiakjeomedijkaaGreatDoor
/- What frame.isSize and frame.head answer: whether a body may have that many bytes; the four bytes of a body's length and the four of its sum. -/
namespace Go.Proofs.YtiakjeomedijkaaGreatDoor
open Go.RowKit
set_option maxRecDepth 8000

/-- May a body have n bytes? -/
def isSz (n : Int) : Bool := decide (1 ≤ n) && decide (n ≤ 1048576)

theorem isSize_any (n : Int) (w : World) : Calls Tryz.prog 50 #[.int .i64 n] w fun e w' => e = .returned (.bool (isSz n)) ∧ w' = w := by
  unfold isSz
  by_cases h1 : 1 ≤ n
  · by_cases h2 : n ≤ 1048576
    · have d1 : decide (1 ≤ n) = true := by simp [h1]
      have d2 : decide (n ≤ 1048576) = true := by simp [h2]
      go_enter Tryz.func50, Tryz.ntmps50
      go_wp2
      go_ret
      exact ⟨by simp [h1, h2], rfl⟩
    · have d1 : decide (1 ≤ n) = true := by simp [h1]
      have d2 : decide (n ≤ 1048576) = false := by simp; omega
      go_enter Tryz.func50, Tryz.ntmps50
      go_wp2
      go_ret
      exact ⟨by simp, rfl⟩
  · have d1 : decide (1 ≤ n) = false := by simp; omega
    go_enter Tryz.func50, Tryz.ntmps50
    go_wp2
    go_ret
    exact ⟨by simp, rfl⟩

/-- What stands ahead of a body in its frame. -/
def headL (xs : List Int) : List Int := be4 xs.length ++ be4 (adler xs)
/-- The same as an array. -/
def headV (xs : List Int) : Value := .agg ((headL xs).map (Value.int .u8)).toArray

theorem isW_new (w : World) : IsW (w.alloc (.cells #[.slice none 0 0] 105)) w.heap.size (.slice none 0 0) [] := ⟨heap_alloc_new _ _, World.ownsRow_nil _ _ _ _⟩

/-- Eight cells of a list of eight bytes. -/
theorem eight (xs : List Int) : ∃ a b c d e f g h : Int, headL xs = [a, b, c, d, e, f, g, h] := ⟨_, _, _, _, _, _, _, _, rfl⟩

set_option maxHeartbeats 1000000 in
theorem head_any (v : Value) (xs : List Int) (w : World) (h : Sees w v xs) (hb : Byts xs) (hl : xs.length < 4294967296) :
    Calls Tryz.prog 51 #[v] w fun e w' => e = .returned (headV xs) ∧ Below w.heap.size w w' := by
  have H : Hid (Sees w v xs ∧ Byts xs) := ⟨h, hb⟩
  have hab := adler_bd xs
  have ha1 := hab.1
  have ha2 := hab.2
  obtain ⟨ao, cap, rfl, g1, g2, g0, g3⟩ := h
  clear g3 hb g0 hab
  unfold maxLen at g2
  go_enter Tryz.func51, Tryz.ntmps51
  go_wp2_with fail
  refine (wUint32_any (w.heap.size + 1) (.slice none 0 0) [] xs.length _ (by have := isW_new (w.alloc (.cells #[.int .u8 0, .int .u8 0, .int .u8 0, .int .u8 0, .int .u8 0, .int .u8 0, .int .u8 0, .int .u8 0] 102)); rwa [World.size_alloc] at this) (by omega) (by omega) (by simp)).mono ?_
  rintro e w1 ⟨rfl, v1, k1, k2, k3⟩
  have B1 : Below w.heap.size w w1 := (((Below.refl w.heap.size w).alloc (Nat.le_refl _) _).alloc (by simp) _).trans (below_writer k3 (by simp; omega) (by omega) (fun k hk => by simp [Value.ownBlock] at hk))
  have n1 : w1.heap[w.heap.size]? = some (.cells #[.int .u8 0, .int .u8 0, .int .u8 0, .int .u8 0, .int .u8 0, .int .u8 0, .int .u8 0, .int .u8 0] 102 (0, 0)) := by
    refine k3.heap (k := w.heap.size) ?_ (fun hs => ?_)
    · rw [Below.heap_alloc _ _ _ (by simp)]; exact heap_alloc_new _ _
    · rcases hs with hs | hs
      · omega
      · simp [Value.ownBlock] at hs
  have r1 : ∀ k, v1.ownBlock = some k → w.heap.size + 1 < k := by
    intro k hk
    rcases k2 with e | ⟨j, e, hj⟩
    · rw [e] at hk; simp [Value.ownBlock] at hk
    · rw [e] at hk; simp at hk hj; omega
  have H1 : Hid (IsW w1 (w.heap.size + 1) v1 (be4 xs.length) ∧ Below w.heap.size w w1 ∧ w1.heap[w.heap.size]? = some (.cells #[.int .u8 0, .int .u8 0, .int .u8 0, .int .u8 0, .int .u8 0, .int .u8 0, .int .u8 0, .int .u8 0] 102 (0, 0)) ∧ (∀ k, v1.ownBlock = some k → w.heap.size + 1 < k)) := ⟨k1, B1, n1, r1⟩
  clear k1 k2 k3 B1 n1 r1
  go_wp2_with fail
  refine (packSum_any _ xs _ (H.out.1.below H1.out.2.1 (Nat.le_refl _)) H.out.2).mono ?_
  rintro e w2 ⟨rfl, rfl⟩
  go_wp2_with fail
  refine (wUint32_any (w.heap.size + 1) v1 (be4 xs.length) (adler xs) _ H1.out.1 ha1 ha2 (by simp [be4])).mono ?_
  rintro e w3 ⟨rfl, v3, k1, k2, k3⟩
  have B3 : Below w.heap.size w w3 := H1.out.2.1.trans (below_writer k3 H1.out.2.1.size (by omega) (fun k hk => by have := H1.out.2.2.2 k hk; omega))
  have n3 : w3.heap[w.heap.size]? = some (.cells #[.int .u8 0, .int .u8 0, .int .u8 0, .int .u8 0, .int .u8 0, .int .u8 0, .int .u8 0, .int .u8 0] 102 (0, 0)) := by
    refine k3.heap (k := w.heap.size) H1.out.2.2.1 (fun hs => ?_)
    rcases hs with hs | hs
    · omega
    · have := H1.out.2.2.2 _ hs; omega
  have H3 : Hid (IsW w3 (w.heap.size + 1) v3 (headL xs) ∧ Below w.heap.size w w3 ∧ w3.heap[w.heap.size]? = some (.cells #[.int .u8 0, .int .u8 0, .int .u8 0, .int .u8 0, .int .u8 0, .int .u8 0, .int .u8 0, .int .u8 0] 102 (0, 0))) := ⟨k1, B3, n3⟩
  clear k1 k2 k3 B3 n3 H1
  go_wp2_with fail
  refine (wBytes_any (w.heap.size + 1) v3 (headL xs) _ H3.out.1 (by simp [headL, be4])).mono ?_
  rintro e w4 ⟨v4, rfl, ho, hb4⟩
  obtain ⟨g, c, rfl, hg⟩ := owns_some ho (by simp [headL, be4])
  have n4 : w4.heap[w.heap.size]? = some (.cells #[.int .u8 0, .int .u8 0, .int .u8 0, .int .u8 0, .int .u8 0, .int .u8 0, .int .u8 0, .int .u8 0] 102 (0, 0)) := by
    rw [hb4.block w.heap.size (lt_of_block H3.out.2.2)]; exact H3.out.2.2
  have hl8 : (headL xs).length = 8 := by simp [headL, be4]
  have HB : Hid (Below w.heap.size w w4 ∧ w4.heap[w.heap.size]? = some (.cells #[.int .u8 0, .int .u8 0, .int .u8 0, .int .u8 0, .int .u8 0, .int .u8 0, .int .u8 0, .int .u8 0] 102 (0, 0))) := ⟨H3.out.2.1.trans ⟨hb4.os, hb4.tape, hb4.output, hb4.size, fun k hk => hb4.block k (by have := H3.out.2.1.size; omega)⟩, n4⟩
  have hg4 : g ≠ w.heap.size := by have := lt_of_block H3.out.2.2; omega
  have fr : ∀ j, w4.frozen? ⟨w.heap.size, j, none⟩ = false := fun j => frozen_of_row w4 w.heap.size j _ _ n4
  have HV : Hid (headV xs = .agg ((headL xs).map (Value.int .u8)).toArray) := (rfl : headV xs = _)
  have oc := owns_cell ho
  obtain ⟨b0, b1, b2, b3, b4, b5, b6, b7, hh⟩ := eight xs
  rw [hh] at oc hl8 HV
  rw [hh]
  have q0 : w4.cell? ⟨g, 0, none⟩ = some (.int .u8 b0) := oc 0 (by simp)
  have q1 : w4.cell? ⟨g, 1, none⟩ = some (.int .u8 b1) := oc 1 (by simp)
  have q2 : w4.cell? ⟨g, 2, none⟩ = some (.int .u8 b2) := oc 2 (by simp)
  have q3 : w4.cell? ⟨g, 3, none⟩ = some (.int .u8 b3) := oc 3 (by simp)
  have q4 : w4.cell? ⟨g, 4, none⟩ = some (.int .u8 b4) := oc 4 (by simp)
  have q5 : w4.cell? ⟨g, 5, none⟩ = some (.int .u8 b5) := oc 5 (by simp)
  have q6 : w4.cell? ⟨g, 6, none⟩ = some (.int .u8 b6) := oc 6 (by simp)
  have q7 : w4.cell? ⟨g, 7, none⟩ = some (.int .u8 b7) := oc 7 (by simp)
  have z : ∀ j, j < 8 → w4.cell? ⟨w.heap.size, j, none⟩ = (#[.int .u8 0, .int .u8 0, .int .u8 0, .int .u8 0, .int .u8 0, .int .u8 0, .int .u8 0, .int .u8 0] : Array Value)[j]? := fun j _ => cell_of_row w4 w.heap.size j _ _ _ n4
  have z0 : w4.cell? ⟨w.heap.size, 0, none⟩ = some (.int .u8 0) := z 0 (by omega)
  have z1 : w4.cell? ⟨w.heap.size, 1, none⟩ = some (.int .u8 0) := z 1 (by omega)
  have z2 : w4.cell? ⟨w.heap.size, 2, none⟩ = some (.int .u8 0) := z 2 (by omega)
  have z3 : w4.cell? ⟨w.heap.size, 3, none⟩ = some (.int .u8 0) := z 3 (by omega)
  have z4 : w4.cell? ⟨w.heap.size, 4, none⟩ = some (.int .u8 0) := z 4 (by omega)
  have z5 : w4.cell? ⟨w.heap.size, 5, none⟩ = some (.int .u8 0) := z 5 (by omega)
  have z6 : w4.cell? ⟨w.heap.size, 6, none⟩ = some (.int .u8 0) := z 6 (by omega)
  have z7 : w4.cell? ⟨w.heap.size, 7, none⟩ = some (.int .u8 0) := z 7 (by omega)
  have f0 := fr 0
  have f1 := fr 1
  have f2 := fr 2
  have f3 := fr 3
  have f4 := fr 4
  have f5 := fr 5
  have f6 := fr 6
  have f7 := fr 7
  have hat : ∀ w, (Instr.arrayAt 102 (.slice (some ⟨g, 0, none⟩) 8 c)).run Tryz.prog w = .ok (.pointer (some ⟨g, 0, none⟩)) w := fun w => run_arrayAt w 102 _ 8 _ 8 c Tryz.underlying102 (Nat.le_refl _)
  clear ho hb4 H3 oc z fr n4 hh hl8
  go_wp2
  refine bodyPost_ret (v := .agg #[.int .u8 b0, .int .u8 b1, .int .u8 b2, .int .u8 b3, .int .u8 b4, .int .u8 b5, .int .u8 b6, .int .u8 b7]) ?_ rfl ⟨by rw [HV.out]; rfl, ((((((((HB.out.1.setCell (p := ⟨w.heap.size, 0, none⟩) (Nat.le_refl _) _).setCell (p := ⟨w.heap.size, 1, none⟩) (Nat.le_refl _) _).setCell (p := ⟨w.heap.size, 2, none⟩) (Nat.le_refl _) _).setCell (p := ⟨w.heap.size, 3, none⟩) (Nat.le_refl _) _).setCell (p := ⟨w.heap.size, 4, none⟩) (Nat.le_refl _) _).setCell (p := ⟨w.heap.size, 5, none⟩) (Nat.le_refl _) _).setCell (p := ⟨w.heap.size, 6, none⟩) (Nat.le_refl _) _).setCell (p := ⟨w.heap.size, 7, none⟩) (Nat.le_refl _) _)⟩
  have hres : Tryz.f51.results = #[.cell 2 102] := by kernel_rfl
  simp only [results, hres]
  go_simp

end Go.Proofs.YtiakjeomedijkaaGreatDoor

/- Two arrays of eight bytes held against each other; a frame's bytes. -/
namespace Go.Proofs.YtiakjeomedijkaaGreatDoor
open Go.RowKit
set_option maxRecDepth 8000

theorem plainByte : Tryz.prog.plainKey 5 = true := by kernel_rfl
theorem cellsByte : Tryz.prog.cellsOf 5 = 1 := by kernel_rfl

theorem run_items (d : Nat) (xs ys : List Int) (w : World) : ∀ is : List Nat, (∀ i ∈ is, i < xs.length ∧ i < ys.length) →
    (Op.eqItems (d + 1) 5 1 (xs.map (Value.int .u8)).toArray (ys.map (Value.int .u8)).toArray is).run Tryz.prog w = .ok (is.all fun i => xs.getD i 0 == ys.getD i 0) w
  | [], _ => by simp [Op.eqItems]
  | i :: is, h => by
    obtain ⟨h1, h2⟩ := h i (by simp)
    have hx : (xs.map (Value.int .u8)).toArray[i]? = some (.int .u8 (xs.getD i 0)) := by simp [List.getD_eq_getElem?_getD, h1]
    have hy : (ys.map (Value.int .u8)).toArray[i]? = some (.int .u8 (ys.getD i 0)) := by simp [List.getD_eq_getElem?_getD, h2]
    have p1 := run_part_plain (P := Tryz.prog) w plainByte hx
    have p2 := run_part_plain (P := Tryz.prog) w plainByte hy
    have p3 := run_equalIn_int (P := Tryz.prog) w d 5 .u8 .u8 (xs.getD i 0) (ys.getD i 0) Tryz.underlying5
    have ih := run_items d xs ys w is (fun j hj => h j (by simp [hj]))
    simp only [Op.eqItems, Nat.mul_one, Sem.run_bind, p1, p2, p3, Result.andThen_ok, List.all_cons]
    cases hq : (xs.getD i 0 == ys.getD i 0)
    · simp
    · simpa using ih

theorem run_neq8 (xs ys : List Int) (hx : xs.length = 8) (hy : ys.length = 8) (w : World) :
    (binOp .neq 102 (.agg (xs.map (Value.int .u8)).toArray) (.agg (ys.map (Value.int .u8)).toArray)).run Tryz.prog w = .ok (.bool (!decide (xs = ys))) w := by
  obtain ⟨i0, hi, _⟩ := info_parts Tryz.infoByte'
  rw [run_neq_struct, run_equalIn_array (P := Tryz.prog) w 9999 _ _ Tryz.underlying102 hi, cellsByte, run_items 9998 xs ys w (List.range 8) (fun i hi => by simp at hi; omega)]
  simp only [Result.andThen_ok]
  congr 3
  rw [Bool.eq_iff_iff]
  simp only [List.all_eq_true, List.mem_range, decide_eq_true_eq, beq_iff_eq]
  constructor
  · intro h
    exact list_of_nths (by omega) (fun j hj => h j (by omega))
  · intro h i _
    rw [h]

/-- A body's frame. -/
def frameL (xs : List Int) : List Int := headL xs ++ (xs ++ [66])

theorem headL_len (xs : List Int) : (headL xs).length = 8 := by simp [headL, be4]
theorem frameL_len (xs : List Int) : (frameL xs).length = xs.length + 9 := by simp [frameL, headL_len]; omega

/-- The length of the body whose frame stands whole at the beginning; 0: none does. -/
def bodyLen (xs : List Int) : Nat :=
  if xs.length < 9 then 0 else
  let n := num (xs.take 4)
  if n > (xs.length : Int) - 9 ∨ isSz n = false then 0
  else if xs.getD (8 + n.toNat) 0 ≠ 66 ∨ xs.take 8 ≠ headL ((xs.drop 8).take n.toNat) then 0 else n.toNat

end Go.Proofs.YtiakjeomedijkaaGreatDoor
