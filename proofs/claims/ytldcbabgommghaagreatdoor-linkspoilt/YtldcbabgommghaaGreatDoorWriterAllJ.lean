/- What the Reader's Float, Buffer and Text do. -/
import Derived.Test.YtldcbabgommghaaGreatDoorReaderAllJ
import Derived.Laws.BytesArg
import Derived.Test.YtldcbabgommghaaGreatDoorEqRJ
import Derived.Test.YtldcbabgommghaaGreatDoorEqQJ
import Derived.Test.YtldcbabgommghaaGreatDoorLeafSumJ
import Derived.Test.YtldcbabgommghaaGreatDoorWriterJ
import Derived.Laws.IdiomStrings
import Derived.Laws.Externs
import Derived.WalkLawsBesides
namespace Go.Proofs.YtldcbabgommghaaGreatDoor
open Go.RowKit
set_option maxRecDepth 8000

section
variable (g : Nat) (v : Value) (xs : List Int) (f : Int) (w : World)

set_option maxHeartbeats 400000 in
theorem rBuffer_any (most : Int) (h : IsR w g v xs f) (hb : Byts xs) :
    Calls Tryz.prog 115 #[.pointer (some ⟨g, 0, none⟩), .int .i64 most] w fun e w' => ∃ u, e = .returned u ∧ Cut w' v u (rdBuf most xs f).1 ∧ ReadsTo w g v (rdBuf most xs f).2 w' := by
  have H : Hid (IsR w g v xs f ∧ Byts xs) := ⟨h, hb⟩
  clear h hb
  go_enter Tryz.func115, Tryz.ntmps115
  go_wp2_with fail
  refine (rSized_any g v xs f _ most H.out.1 H.out.2).mono ?_
  rintro e w1 ⟨u, rfl, hc⟩
  have HC : Hid (Cut w1 v u (rdBuf most xs f).1 ∧ ReadsTo w g v (rdBuf most xs f).2 w1) := hc
  clear hc
  go_wp2
  go_ret
  exact ⟨_, rfl, HC.out⟩

theorem run_text (w : World) (u : Value) (ys : List Int) (h : Sees w u ys) : (convert 30 9 u).run Tryz.prog w = .ok (.string (strOfNums ys)) w := by
  obtain ⟨ao, cap, rfl, _, _, _, h3⟩ := h
  rcases h3 with rfl | ⟨b, off, rfl, h3⟩
  · cases ao with
    | none => exact run_convert_bytes_nil w 30 5 Tryz.underlying30 Tryz.underlying5 _ _ _ Tryz.underlying9
    | some a =>
      rw [run_convert_bytes_string w 30 9 5 _ _ _ Tryz.underlying30 Tryz.underlying5 Tryz.underlying9]
      have hl : (loadCells a 0).run Tryz.prog w = .ok #[] w := by simp [loadCells, loadCellsFrom]
      simp [Conv.bytesToString, strOfNums, hl]
      rfl
  · exact run_convert_bytes_arg w 30 5 Tryz.underlying30 Tryz.underlying5 b off ys.length cap ys rfl h3 _ Tryz.underlying9

set_option maxHeartbeats 400000 in
theorem rText_any (most : Int) (h : IsR w g v xs f) (hb : Byts xs) :
    Calls Tryz.prog 155 #[.pointer (some ⟨g, 0, none⟩), .int .i64 most] w fun e w' => e = .returned (.string (strOfNums (rdBuf most xs f).1)) ∧ ReadsTo w g v (rdBuf most xs f).2 w' := by
  have H : Hid (IsR w g v xs f ∧ Byts xs) := ⟨h, hb⟩
  clear h hb
  go_enter Tryz.func155, Tryz.ntmps155
  go_wp2_with fail
  refine (rSized_any g v xs f _ most H.out.1 H.out.2).mono ?_
  rintro e w1 ⟨u, rfl, hc, ht⟩
  have hcv := run_text w1 u _ hc.1
  have HC : Hid (ReadsTo w g v (rdBuf most xs f).2 w1) := ht
  clear hc ht
  go_wp2
  go_ret
  exact ⟨rfl, HC.out⟩
end
end Go.Proofs.YtldcbabgommghaaGreatDoor

/- bytes.Equal, slices.Equal at ids and at entries, at the same data: true. -/
namespace Go.Proofs.YtldcbabgommghaaGreatDoor
open Go.RowKit
set_option maxRecDepth 8000

theorem bytesEqual_same (v u : Value) (xs : List Int) (w : World) (h : Sees w v xs) (g : Sees w u xs) :
    Calls Tryz.prog 121 #[v, u] w fun e w' => e = .returned (.bool true) ∧ w' = w := by
  have h1 := run_text w v xs h
  have h2 := run_text w u xs g
  obtain ⟨ao, cap, rfl, _⟩ := h
  obtain ⟨bo, cbp, rfl, _⟩ := g
  go_enter Tryz.func121, Tryz.ntmps121
  go_wp2
  go_ret
  exact ⟨by simp, rfl⟩

set_option maxHeartbeats 400000 in
theorem slEqId_same (v u : Value) (l : List IdD) (w : World) (h : SeesR w v 2 (l.map IdD.cells)) (g : SeesR w u 2 (l.map IdD.cells)) :
    Calls Tryz.prog 123 #[v, u] w fun e w' => e = .returned (.bool true) ∧ ∃ n, w' = w.drewN n := by
  obtain ⟨ao, cap, rfl, hlc, hcm, _, h3⟩ := h
  obtain ⟨bo, cbp, rfl, glc, gcm, _, g3⟩ := g
  unfold maxLen at hcm gcm
  have hg : Tryz.prog.eqGuardType Tryz.prog.depth 129 = false := by kernel_rfl
  rw [List.length_map] at hlc glc ⊢
  go_enter Tryz.func123, Tryz.ntmps123
  go_wp2
  go_loopw [13] (fun i wr => ∃ k m : Nat, k ≤ l.length ∧ i = .int .i64 k ∧ wr = w.drewN m) (fun i _ => l.length - (intOf i).toNat)
  case atStart => exact ⟨0, 0, Nat.zero_le _, rfl, rfl⟩
  case round =>
    obtain ⟨k, m, hk, rfl, rfl⟩ := hrel
    by_cases hlt : k < l.length
    · rcases h3 with h3 | ⟨b, off, rfl, h3⟩
      · have : l.length = 0 := by simpa using congrArg List.length h3
        omega
      · rcases g3 with g3 | ⟨b', off', rfl, g3⟩
        · have : l.length = 0 := by simpa using congrArg List.length g3
          omega
        · have c0 := h3 k (by simpa using hlt) 0 (by omega)
          have c1 := h3 k (by simpa using hlt) 1 (by omega)
          have e0 := g3 k (by simpa using hlt) 0 (by omega)
          have e1 := g3 k (by simpa using hlt) 1 (by omega)
          simp [IdD.cells] at c0 c1 e0 e1
          clear h3 g3
          generalize l[k] = x at *
          have hq := neqId x.scheme x.name
          go_wp2
          go_quiet (fail)
          go_wp2
          go_roundw
          case rel => exact ⟨k + 1, _, by omega, by go_num, rfl⟩
          case measure => simp [intOf]; omega
    · obtain rfl : k = l.length := by omega
      go_wp2
      go_ret
      exact ⟨rfl, m, rfl⟩
set_option maxHeartbeats 400000 in
theorem slEqEntry_same (v u : Value) (l : List EnD) (w : World) (h : SeesR w v 3 (l.map EnD.cells)) (g : SeesR w u 3 (l.map EnD.cells)) :
    Calls Tryz.prog 122 #[v, u] w fun e w' => e = .returned (.bool true) ∧ ∃ n, w' = w.drewN n := by
  obtain ⟨ao, cap, rfl, hlc, hcm, _, h3⟩ := h
  obtain ⟨bo, cbp, rfl, glc, gcm, _, g3⟩ := g
  unfold maxLen at hcm gcm
  have hg : Tryz.prog.eqGuardType Tryz.prog.depth 131 = false := by kernel_rfl
  rw [List.length_map] at hlc glc ⊢
  go_enter Tryz.func122, Tryz.ntmps122
  go_wp2
  go_loopw [13] (fun i wr => ∃ k m : Nat, k ≤ l.length ∧ i = .int .i64 k ∧ wr = w.drewN m) (fun i _ => l.length - (intOf i).toNat)
  case atStart => exact ⟨0, 0, Nat.zero_le _, rfl, rfl⟩
  case round =>
    obtain ⟨k, m, hk, rfl, rfl⟩ := hrel
    by_cases hlt : k < l.length
    · rcases h3 with h3 | ⟨b, off, rfl, h3⟩
      · have : l.length = 0 := by simpa using congrArg List.length h3
        omega
      · rcases g3 with g3 | ⟨b', off', rfl, g3⟩
        · have : l.length = 0 := by simpa using congrArg List.length g3
          omega
        · have c0 := h3 k (by simpa using hlt) 0 (by omega)
          have c1 := h3 k (by simpa using hlt) 1 (by omega)
          have c2 := h3 k (by simpa using hlt) 2 (by omega)
          have e2 := g3 k (by simpa using hlt) 2 (by omega)
          have e0 := g3 k (by simpa using hlt) 0 (by omega)
          have e1 := g3 k (by simpa using hlt) 1 (by omega)
          simp [EnD.cells] at c0 c1 c2 e0 e1 e2
          clear h3 g3
          generalize l[k] = x at *
          have hq := neqEn x.perms x.id.scheme x.id.name
          go_wp2
          go_quiet (fail)
          go_wp2
          go_roundw
          case rel => exact ⟨k + 1, _, by omega, by go_num, rfl⟩
          case measure => simp [intOf]; omega
    · obtain rfl : k = l.length := by omega
      go_wp2
      go_ret
      exact ⟨rfl, m, rfl⟩

end Go.Proofs.YtldcbabgommghaaGreatDoor

/- EqTxn of lagoonref00 at two transactions of the same data. -/
namespace Go.Proofs.YtldcbabgommghaaGreatDoor
open Go.RowKit
set_option maxRecDepth 8000

theorem eqOr (s b m : Int) (w : World) : (binOp .eql 29 (.agg #[.int .i8 s, .int .u32 b, .int .i64 m]) (.agg #[.int .i8 s, .int .u32 b, .int .i64 m])).run Tryz.prog w = .ok (.bool true) w := by
  have hu : Tryz.prog.underlying 29 = some (.struct (Tryz.prog.fieldsOf 29)) := by kernel_rfl
  have hp : Tryz.prog.stoodInHeld 29 = false := by kernel_rfl
  have u3 := Tryz.underlying22
  have a3 := Tryz.isAgg22
  have z3 := Tryz.sizeOf22
  have u4 := Tryz.underlying23
  have a4 := Tryz.isAgg23
  have z4 := Tryz.sizeOf23
  have u5 := Tryz.underlying2
  have a5 := Tryz.isAgg2
  have z5 := Tryz.sizeOf2
  rw [run_eql_struct, show (10000 : Nat) = 9999 + 1 from rfl, run_equalIn_agg w 9999 _ _ _ hu hp]
  simp only [Program.fieldsOf, Tryz.underlying29]
  go_simp

set_option maxHeartbeats 1000000 in
theorem eqTxn_same (cs ds : List Value) (t : TxD) (w : World) (hcs : SeesTx w cs t) (hds : SeesTx w ds t) :
    Calls Tryz.prog 23 #[.agg cs.toArray, .agg ds.toArray] w fun r w' => r = .returned (.bool true) ∧ Below w.heap.size w w' := by
  obtain ⟨rc, rfl, hr⟩ := hcs
  obtain ⟨rd, rfl, hr'⟩ := hds
  obtain ⟨e, n, sv, bt, nm, rq⟩ := t
  have HX : Hid (∀ W : World, Below w.heap.size w W → Calls Tryz.prog 44 #[.agg rc.toArray, .agg rd.toArray] W fun r w' => r = .returned (.bool true) ∧ Below W.heap.size W w') := fun W hW =>
    eqRequest_same rq rc rd W (hr.later hW (Nat.le_refl _)) (hr'.later hW (Nat.le_refl _))
  obtain ⟨kx, sx, dx0, dx1, dx2, ax0, ax1, ax2, vx, px, qx, zx, tx, wx0, wx1, wx2, ox0, ox1, ox2, rfl⟩ := rq_forms hr
  obtain ⟨ky, sy, dy0, dy1, dy2, ay0, ay1, ay2, vy, py, qy, zy, ty, wy0, wy1, wy2, oy0, oy1, oy2, rfl⟩ := rq_forms hr'
  have hg : Tryz.prog.eqGuardType Tryz.prog.depth 27 = false := by kernel_rfl
  have hg' : Tryz.prog.eqGuardType Tryz.prog.depth 29 = false := by kernel_rfl
  have hq := eqZx e n e n
  rw [decide_eq_true (⟨rfl, rfl⟩ : e = e ∧ n = n)] at hq
  have hq' := eqOr sv bt nm
  simp only [txHead, List.cons_append, List.nil_append]
  clear hr hr'
  have HB := two_alloc w
  go_enter Tryz.func23, Tryz.ntmps23
  go_wp2_with fail
  refine (HX.out _ (HB _ _)).mono ?_
  rintro r w1 ⟨rfl, b1⟩
  have HB1 : Hid (Below w.heap.size w w1) := (HB _ _).trans (b1.mono (by simp; omega))
  clear b1 HB
  go_wp2
  go_ret
  exact ⟨rfl, HB1.out⟩
end Go.Proofs.YtldcbabgommghaaGreatDoor

/- The eight bytes of a whole number; no Go function is walked here. -/
namespace Go.Proofs.YtldcbabgommghaaGreatDoor

/-- The eight bytes of a number from 0 on. -/
def be8 (n : Int) : List Int := be4 (n / 4294967296) ++ be4 (n % 4294967296)

def up64 (n : Int) : Int := n % 18446744073709551616
theorem up64_bd (n : Int) : 0 ≤ up64 n ∧ up64 n ≤ 18446744073709551615 := by unfold up64; omega

end Go.Proofs.YtldcbabgommghaaGreatDoor

/- What the Writer's Int64 does, and put64 behind it: eight bytes, the highest first. -/
namespace Go.Proofs.YtldcbabgommghaaGreatDoor
open Go.RowKit
set_option maxRecDepth 8000

set_option maxHeartbeats 400000 in
theorem wPut64_any (g : Nat) (v : Value) (xs : List Int) (n : Int) (w : World) (h : IsW w g v xs) (hn : 0 ≤ n) (hn' : n ≤ 18446744073709551615) (hb : xs.length + 8 ≤ 140737488355328) :
    Calls Tryz.prog 125 #[.pointer (some ⟨g, 0, none⟩), .int .u64 n] w fun e w' => e = .returned (.tuple #[]) ∧ Puts w g v (xs ++ be8 n) w' := by
  have H : Hid (IsW w g v xs) := h
  clear h
  have hq : n / 4294967296 ≤ 4294967295 := by omega
  go_enter Tryz.func125, Tryz.ntmps125
  go_wp2_with fail
  refine (wUint32_any g v xs (n / 4294967296) _ H.out (by omega) (by omega) (by omega)).mono ?_
  rintro e w1 ⟨rfl, hp⟩
  obtain ⟨v1, hw1, hn1, hk1⟩ := hp
  have HW1 : Hid (IsW w1 g v1 (xs ++ be4 (n / 4294967296)) ∧ NewRow w v v1 ∧ Kept w w1 (fun k => k = g ∨ v.ownBlock = some k)) := ⟨hw1, hn1, hk1⟩
  clear hw1 hn1 hk1
  go_wp2_with fail
  refine (wUint32_any g v1 _ (n % 4294967296) _ HW1.out.1 (by omega) (by omega) (by simp [be4]; omega)).mono ?_
  rintro e w2 ⟨rfl, hp2⟩
  have hp3 := Puts.next HW1.out.2.1 HW1.out.2.2 hp2
  rw [List.append_assoc] at hp3
  have HP : Hid (Puts w g v (xs ++ be8 n) w2) := hp3
  clear hp2 hp3
  go_wp2
  go_end0
  exact ⟨rfl, HP.out⟩

set_option maxHeartbeats 400000 in
theorem wInt64_any (g : Nat) (v : Value) (xs : List Int) (n : Int) (w : World) (h : IsW w g v xs) (hb : xs.length + 8 ≤ 140737488355328) :
    Calls Tryz.prog 85 #[.pointer (some ⟨g, 0, none⟩), .int .i64 n] w fun e w' => e = .returned (.tuple #[]) ∧ Puts w g v (xs ++ be8 (up64 n)) w' := by
  have H : Hid (IsW w g v xs) := h
  clear h
  go_enter Tryz.func85, Tryz.ntmps85
  go_wp2_with fail
  refine (wPut64_any g v xs (up64 n) _ H.out (up64_bd n).1 (up64_bd n).2 hb).mono ?_
  rintro e w1 ⟨rfl, hp⟩
  have HP : Hid (Puts w g v (xs ++ be8 (up64 n)) w1) := hp
  clear hp
  go_wp2
  go_end0
  exact ⟨rfl, HP.out⟩

end Go.Proofs.YtldcbabgommghaaGreatDoor

/- What the Writer's Raw does: it puts the bytes behind those that the Writer has. -/
namespace Go.Proofs.YtldcbabgommghaaGreatDoor
open Go.RowKit
set_option maxRecDepth 8000

set_option maxHeartbeats 400000 in
theorem wRaw_any (g : Nat) (v u : Value) (xs ys : List Int) (w : World) (h : IsW w g v xs) (hu : Sees w u ys) (hb : xs.length + ys.length ≤ 140737488355328) :
    Calls Tryz.prog 30 #[.pointer (some ⟨g, 0, none⟩), u] w fun e w' => e = .returned (.tuple #[]) ∧ Puts w g v (xs ++ ys) w' := by
  have H : Hid (IsW w g v xs ∧ Sees w u ys) := ⟨h, hu⟩
  clear h hu
  go_enter Tryz.func30, Tryz.ntmps30
  go_wp2_with fail
  refine (add_any g v u xs ys _ H.out.1 H.out.2 hb).mono ?_
  rintro e w1 ⟨rfl, hp⟩
  have HP : Hid (Puts w g v (xs ++ ys) w1) := hp
  clear hp
  go_wp2
  go_end0
  exact ⟨rfl, HP.out⟩

end Go.Proofs.YtldcbabgommghaaGreatDoor

/- What the rest of the Writer's calls do: Bool, Int8, Float, Text and Buffer. -/
namespace Go.Proofs.YtldcbabgommghaaGreatDoor
open Go.RowKit
set_option maxRecDepth 8000

/-- A truth's byte. -/
def b2i (b : Bool) : Int := if b then 1 else 0

set_option maxHeartbeats 400000 in
theorem wBool_any (g : Nat) (v : Value) (xs : List Int) (b : Bool) (w : World) (h : IsW w g v xs) (hb : xs.length + 1 ≤ 140737488355328) :
    Calls Tryz.prog 103 #[.pointer (some ⟨g, 0, none⟩), .bool b] w fun e w' => e = .returned (.tuple #[]) ∧ Puts w g v (xs ++ [b2i b]) w' := by
  have H : Hid (IsW w g v xs) := h
  clear h
  cases b
  · go_enter Tryz.func103, Tryz.ntmps103
    go_wp2_with fail
    refine (add_any g v _ xs [0] _ (H.out.alloc _) (sees_new _ [0] (by simp) rfl) hb).mono ?_
    rintro e w1 ⟨rfl, hp⟩
    have HP : Hid (Puts w g v (xs ++ [0]) w1) := hp.of_alloc
    clear hp
    go_wp2
    go_end0
    exact ⟨rfl, HP.out⟩
  · go_enter Tryz.func103, Tryz.ntmps103
    go_wp2_with fail
    refine (add_any g v _ xs [1] _ (H.out.alloc _) (sees_new _ [1] (by simp) rfl) hb).mono ?_
    rintro e w1 ⟨rfl, hp⟩
    have HP : Hid (Puts w g v (xs ++ [1]) w1) := hp.of_alloc
    clear hp
    go_wp2
    go_end0
    exact ⟨rfl, HP.out⟩

set_option maxHeartbeats 400000 in
theorem wInt8_any (g : Nat) (v : Value) (xs : List Int) (n : Int) (w : World) (h : IsW w g v xs) (hb : xs.length + 1 ≤ 140737488355328) :
    Calls Tryz.prog 49 #[.pointer (some ⟨g, 0, none⟩), .int .i8 n] w fun e w' => e = .returned (.tuple #[]) ∧ Puts w g v (xs ++ [n % 256]) w' := by
  have H : Hid (IsW w g v xs) := h
  clear h
  go_enter Tryz.func49, Tryz.ntmps49
  go_wp2_with fail
  refine (add_any g v _ xs [n % 256] _ (H.out.alloc _) (sees_new _ [n % 256] (by simp) rfl) hb).mono ?_
  rintro e w1 ⟨rfl, hp⟩
  have HP : Hid (Puts w g v (xs ++ [n % 256]) w1) := hp.of_alloc
  clear hp
  go_wp2
  go_end0
  exact ⟨rfl, HP.out⟩

set_option maxHeartbeats 400000 in
theorem wBuffer_any (g : Nat) (v u : Value) (xs ys : List Int) (w : World) (h : IsW w g v xs) (hu : Sees w u ys) (hap : ∀ k, liveB u = some k → k ≠ g ∧ v.ownBlock ≠ some k) (hl : ys.length ≤ 2147483647) (hb : xs.length + 4 + ys.length ≤ 140737488355328) :
    Calls Tryz.prog 113 #[.pointer (some ⟨g, 0, none⟩), u] w fun e w' => e = .returned (.tuple #[]) ∧ Puts w g v (xs ++ (be4 ys.length ++ ys)) w' := by
  have H : Hid (IsW w g v xs ∧ Sees w u ys ∧ ∀ k, liveB u = some k → k ≠ g ∧ v.ownBlock ≠ some k) := ⟨h, hu, hap⟩
  obtain ⟨ao, cap, rfl, q1, q2, _, _⟩ := hu
  unfold maxLen at q2
  clear h hap
  go_enter Tryz.func113, Tryz.ntmps113
  go_wp2_with fail
  refine (wInt32_any g v xs ys.length _ H.out.1 (by omega)).mono ?_
  rintro e w1 ⟨rfl, hp⟩
  rw [show up32 (ys.length : Int) = ys.length by unfold up32; omega] at hp
  obtain ⟨v1, hW1, hN1, hK1⟩ := hp
  have hs1 : Sees w1 (.slice ao ys.length cap) ys := H.out.2.1.keptL hK1 (fun k hk hs => by
    have := H.out.2.2 k hk
    rcases hs with hs | hs
    · exact this.1 hs
    · exact this.2 hs)
  have HW : Hid (IsW w1 g v1 (xs ++ be4 ys.length) ∧ Sees w1 (.slice ao ys.length cap) ys ∧ NewRow w v v1 ∧ Kept w w1 (fun k => k = g ∨ v.ownBlock = some k)) := ⟨hW1, hs1, hN1, hK1⟩
  clear hW1 hs1 hN1 hK1
  go_wp2_with fail
  refine (wRaw_any g v1 _ _ ys _ HW.out.1 HW.out.2.1 (by simp [be4]; omega)).mono ?_
  rintro e w2 ⟨rfl, hp2⟩
  have hp3 := Puts.next HW.out.2.2.1 HW.out.2.2.2 hp2
  rw [List.append_assoc] at hp3
  have HP : Hid (Puts w g v (xs ++ (be4 ys.length ++ ys)) w2) := hp3
  clear hp2 hp3
  go_wp2
  go_end0
  exact ⟨rfl, HP.out⟩

/-- A text's bytes as numbers. -/
def txt (s : ByteArray) : List Int := s.data.toList.map fun b => (b.toNat : Int)
theorem txt_len (s : ByteArray) : (txt s).length = s.size := by unfold txt; rw [List.length_map, Array.length_toList]; rfl
/-- What '[]byte(s)' makes leads to the text's bytes. -/
theorem sees_text (w : World) (s : ByteArray) (hs : s.size ≤ maxLen) (mk : Nat × Nat) :
    Sees (w.drew.alloc (.cells (bytesRow s (grownCap w s.size 0 5)) 5 mk)) (.slice (some ⟨w.heap.size, 0, none⟩) s.size (grownCap w s.size 0 5)) (txt s) := by
  refine ⟨_, _, by rw [txt_len], by rw [txt_len]; exact grownCap_ge _ _ _ _, grownCap_le_maxLen _ _ _ _ hs, fun e => by simp at e, .inr ⟨_, _, rfl, fun i hi => ?_⟩⟩
  rw [txt_len] at hi
  have hi' : i < s.data.size := hi
  rw [Nat.zero_add]
  have := World.cell?_alloc_mark w.drew (bytesRow s (grownCap w s.size 0 5)) 5 mk i
  rw [show w.drew.heap.size = w.heap.size from rfl] at this
  rw [this, bytesRow_at s _ i hi']
  simp only [txt, List.getD_eq_getElem?_getD, List.getElem?_map, Array.getElem?_toList, Array.getElem?_eq_getElem hi', Option.map_some, Option.getD_some]

theorem IsW.drew {w : World} {g : Nat} {v : Value} {xs : List Int} (h : IsW w g v xs) : IsW w.drew g v xs := h.kept ((Kept.refl w (fun _ => False)).drewN 1) (fun h => h) (fun _ _ h => h)

theorem Puts.of_drew {w w' : World} {g : Nat} {v : Value} {xs : List Int} (h : Puts w.drew g v xs w') : Puts w g v xs w' := by
  obtain ⟨v', h1, h2, h3⟩ := h
  exact ⟨v', h1, h2, ⟨h3.os, h3.tape, h3.output, h3.size, h3.block⟩⟩

set_option maxHeartbeats 400000 in
theorem wText_any (g : Nat) (v : Value) (xs : List Int) (s : ByteArray) (w : World) (h : IsW w g v xs) (hl : s.size ≤ 2147483647) (hb : xs.length + 4 + s.size ≤ 140737488355328) :
    Calls Tryz.prog 147 #[.pointer (some ⟨g, 0, none⟩), .string s] w fun e w' => e = .returned (.tuple #[]) ∧ Puts w g v (xs ++ (be4 (txt s).length ++ txt s)) w' := by
  have H : Hid (IsW w g v xs) := h
  have hcv := run_bytes_of_string (P := Tryz.prog) w 9 30 5 s Tryz.underlying9 Tryz.underlying30 Tryz.underlying5
  have hgw : g < w.heap.size := lt_of_block h.1
  clear h
  go_enter Tryz.func147, Tryz.ntmps147
  go_wp2_with fail
  refine (wBuffer_any g v _ xs (txt s) _ (by exact (H.out.drew.alloc _)) (by exact sees_text w s (by unfold maxLen; omega) _) (fun k hk => ?_) (by rw [txt_len]; omega) (by rw [txt_len]; omega)).mono ?_
  · replace hk := live_own hk
    simp [Value.ownBlock] at hk
    subst hk
    refine ⟨by omega, fun e => ?_⟩
    have := (H.out.2.lt _ e).2
    omega
  rintro e w1 ⟨rfl, hp⟩
  have HP : Hid (Puts w g v (xs ++ (be4 (txt s).length ++ txt s)) w1) := hp.of_drew.of_alloc
  clear hp
  go_wp2
  go_end0
  exact ⟨rfl, HP.out⟩

end Go.Proofs.YtldcbabgommghaaGreatDoor
