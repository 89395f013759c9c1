import Derived.Test.YtgeoocchdpehdaaGreatDoorReaderAllJ
import Derived.Laws.BytesArg
import Derived.Test.YtgeoocchdpehdaaGreatDoorEqRJ
import Derived.Test.YtgeoocchdpehdaaGreatDoorWriterJ
import Derived.Laws.IdiomStrings
import Derived.Laws.Externs
import Derived.WalkLawsBesides
import Derived.Test.YtgeoocchdpehdaaGreatDoorChk3J
import Derived.Defers
import Derived.Recover
namespace Go.Proofs.YtgeoocchdpehdaaGreatDoor
open Go.RowKit
set_option maxRecDepth 8000

section
variable (g : Nat) (v : Value) (xs : List Int) (f : Int) (w : World)

set_option maxHeartbeats 400000 in
theorem rBuffer_any (most : Int) (h : IsR w g v xs f) (hb : Byts xs) :
    Calls Tryz.prog 98 #[.pointer (some ⟨g, 0, none⟩), .int .i64 most] w fun e w' => ∃ u, e = .returned u ∧ Cut w' v u (rdBuf most xs f).1 ∧ ReadsTo w g v (rdBuf most xs f).2 w' := by
  have H : Hid (IsR w g v xs f ∧ Byts xs) := ⟨h, hb⟩
  clear h hb
  go_enter Tryz.func98, Tryz.ntmps98
  go_wp2_with fail
  refine (rSized_any g v xs f _ most H.out.1 H.out.2).mono ?_
  rintro e w1 ⟨u, rfl, hc⟩
  have HC : Hid (Cut w1 v u (rdBuf most xs f).1 ∧ ReadsTo w g v (rdBuf most xs f).2 w1) := hc
  clear hc
  go_wp2
  go_ret
  exact ⟨_, rfl, HC.out⟩

theorem run_text (w : World) (u : Value) (ys : List Int) (h : Sees w u ys) : (convert 30 9 u).run Tryz.prog w = .ok (.string (strOfNums ys)) w := by
  obtain ⟨ao, cap, rfl, _, _, _, h3⟩ := h
  rcases h3 with rfl | ⟨b, off, rfl, h3⟩
  · cases ao with
    | none => exact run_convert_bytes_nil w 30 5 Tryz.underlying30 Tryz.underlying5 _ _ _ Tryz.underlying9
    | some a =>
      rw [run_convert_bytes_string w 30 9 5 _ _ _ Tryz.underlying30 Tryz.underlying5 Tryz.underlying9]
      have hl : (loadCells a 0).run Tryz.prog w = .ok #[] w := by simp [loadCells, loadCellsFrom]
      simp [Conv.bytesToString, strOfNums, hl]
      rfl
  · exact run_convert_bytes_arg w 30 5 Tryz.underlying30 Tryz.underlying5 b off ys.length cap ys rfl h3 _ Tryz.underlying9

set_option maxHeartbeats 400000 in
theorem rText_any (most : Int) (h : IsR w g v xs f) (hb : Byts xs) :
    Calls Tryz.prog 142 #[.pointer (some ⟨g, 0, none⟩), .int .i64 most] w fun e w' => e = .returned (.string (strOfNums (rdBuf most xs f).1)) ∧ ReadsTo w g v (rdBuf most xs f).2 w' := by
  have H : Hid (IsR w g v xs f ∧ Byts xs) := ⟨h, hb⟩
  clear h hb
  go_enter Tryz.func142, Tryz.ntmps142
  go_wp2_with fail
  refine (rSized_any g v xs f _ most H.out.1 H.out.2).mono ?_
  rintro e w1 ⟨u, rfl, hc, ht⟩
  have hcv := run_text w1 u _ hc.1
  have HC : Hid (ReadsTo w g v (rdBuf most xs f).2 w1) := ht
  clear hc ht
  go_wp2
  go_ret
  exact ⟨rfl, HC.out⟩
end
end Go.Proofs.YtgeoocchdpehdaaGreatDoor

namespace Go.Proofs.YtgeoocchdpehdaaGreatDoor
open Go.RowKit
set_option maxRecDepth 8000

theorem bytesEqual_same (v u : Value) (xs : List Int) (w : World) (h : Sees w v xs) (g : Sees w u xs) :
    Calls Tryz.prog 108 #[v, u] w fun e w' => e = .returned (.bool true) ∧ w' = w := by
  have h1 := run_text w v xs h
  have h2 := run_text w u xs g
  obtain ⟨ao, cap, rfl, _⟩ := h
  obtain ⟨bo, cbp, rfl, _⟩ := g
  go_enter Tryz.func108, Tryz.ntmps108
  go_wp2
  go_ret
  exact ⟨by simp, rfl⟩

set_option maxHeartbeats 400000 in
theorem slEqId_same (v u : Value) (l : List IdD) (w : World) (h : SeesR w v 2 (l.map IdD.cells)) (g : SeesR w u 2 (l.map IdD.cells)) :
    Calls Tryz.prog 110 #[v, u] w fun e w' => e = .returned (.bool true) ∧ ∃ n, w' = w.drewN n := by
  obtain ⟨ao, cap, rfl, hlc, hcm, _, h3⟩ := h
  obtain ⟨bo, cbp, rfl, glc, gcm, _, g3⟩ := g
  unfold maxLen at hcm gcm
  have hg : Tryz.prog.eqGuardType Tryz.prog.depth 115 = false := by kernel_rfl
  rw [List.length_map] at hlc glc ⊢
  go_enter Tryz.func110, Tryz.ntmps110
  go_wp2
  go_loopw [13] (fun i wr => ∃ k m : Nat, k ≤ l.length ∧ i = .int .i64 k ∧ wr = w.drewN m) (fun i _ => l.length - (intOf i).toNat)
  case atStart => exact ⟨0, 0, Nat.zero_le _, rfl, rfl⟩
  case round =>
    obtain ⟨k, m, hk, rfl, rfl⟩ := hrel
    by_cases hlt : k < l.length
    · rcases h3 with h3 | ⟨b, off, rfl, h3⟩
      · have : l.length = 0 := by simpa using congrArg List.length h3
        omega
      · rcases g3 with g3 | ⟨b', off', rfl, g3⟩
        · have : l.length = 0 := by simpa using congrArg List.length g3
          omega
        · have c0 := h3 k (by simpa using hlt) 0 (by omega)
          have c1 := h3 k (by simpa using hlt) 1 (by omega)
          have e0 := g3 k (by simpa using hlt) 0 (by omega)
          have e1 := g3 k (by simpa using hlt) 1 (by omega)
          simp [IdD.cells] at c0 c1 e0 e1
          clear h3 g3
          generalize l[k] = x at *
          have hq := neqId x.scheme x.name
          go_wp2
          go_quiet (fail)
          go_wp2
          go_roundw
          case rel => exact ⟨k + 1, _, by omega, by go_num, rfl⟩
          case measure => simp [intOf]; omega
    · obtain rfl : k = l.length := by omega
      go_wp2
      go_ret
      exact ⟨rfl, m, rfl⟩
set_option maxHeartbeats 400000 in
theorem slEqEntry_same (v u : Value) (l : List EnD) (w : World) (h : SeesR w v 3 (l.map EnD.cells)) (g : SeesR w u 3 (l.map EnD.cells)) :
    Calls Tryz.prog 109 #[v, u] w fun e w' => e = .returned (.bool true) ∧ ∃ n, w' = w.drewN n := by
  obtain ⟨ao, cap, rfl, hlc, hcm, _, h3⟩ := h
  obtain ⟨bo, cbp, rfl, glc, gcm, _, g3⟩ := g
  unfold maxLen at hcm gcm
  have hg : Tryz.prog.eqGuardType Tryz.prog.depth 117 = false := by kernel_rfl
  rw [List.length_map] at hlc glc ⊢
  go_enter Tryz.func109, Tryz.ntmps109
  go_wp2
  go_loopw [13] (fun i wr => ∃ k m : Nat, k ≤ l.length ∧ i = .int .i64 k ∧ wr = w.drewN m) (fun i _ => l.length - (intOf i).toNat)
  case atStart => exact ⟨0, 0, Nat.zero_le _, rfl, rfl⟩
  case round =>
    obtain ⟨k, m, hk, rfl, rfl⟩ := hrel
    by_cases hlt : k < l.length
    · rcases h3 with h3 | ⟨b, off, rfl, h3⟩
      · have : l.length = 0 := by simpa using congrArg List.length h3
        omega
      · rcases g3 with g3 | ⟨b', off', rfl, g3⟩
        · have : l.length = 0 := by simpa using congrArg List.length g3
          omega
        · have c0 := h3 k (by simpa using hlt) 0 (by omega)
          have c1 := h3 k (by simpa using hlt) 1 (by omega)
          have c2 := h3 k (by simpa using hlt) 2 (by omega)
          have e2 := g3 k (by simpa using hlt) 2 (by omega)
          have e0 := g3 k (by simpa using hlt) 0 (by omega)
          have e1 := g3 k (by simpa using hlt) 1 (by omega)
          simp [EnD.cells] at c0 c1 c2 e0 e1 e2
          clear h3 g3
          generalize l[k] = x at *
          have hq := neqEn x.perms x.id.scheme x.id.name
          go_wp2
          go_quiet (fail)
          go_wp2
          go_roundw
          case rel => exact ⟨k + 1, _, by omega, by go_num, rfl⟩
          case measure => simp [intOf]; omega
    · obtain rfl : k = l.length := by omega
      go_wp2
      go_ret
      exact ⟨rfl, m, rfl⟩

end Go.Proofs.YtgeoocchdpehdaaGreatDoor

namespace Go.Proofs.YtgeoocchdpehdaaGreatDoor

def be8 (n : Int) : List Int := be4 (n / 4294967296) ++ be4 (n % 4294967296)

def up64 (n : Int) : Int := n % 18446744073709551616
theorem up64_bd (n : Int) : 0 ≤ up64 n ∧ up64 n ≤ 18446744073709551615 := by unfold up64; omega

end Go.Proofs.YtgeoocchdpehdaaGreatDoor

namespace Go.Proofs.YtgeoocchdpehdaaGreatDoor
open Go.RowKit
set_option maxRecDepth 8000

set_option maxHeartbeats 400000 in
theorem wPut64_any (g : Nat) (v : Value) (xs : List Int) (n : Int) (w : World) (h : IsW w g v xs) (hn : 0 ≤ n) (hn' : n ≤ 18446744073709551615) (hb : xs.length + 8 ≤ 140737488355328) :
    Calls Tryz.prog 112 #[.pointer (some ⟨g, 0, none⟩), .int .u64 n] w fun e w' => e = .returned (.tuple #[]) ∧ Puts w g v (xs ++ be8 n) w' := by
  have H : Hid (IsW w g v xs) := h
  clear h
  have hq : n / 4294967296 ≤ 4294967295 := by omega
  go_enter Tryz.func112, Tryz.ntmps112
  go_wp2_with fail
  refine (wUint32_any g v xs (n / 4294967296) _ H.out (by omega) (by omega) (by omega)).mono ?_
  rintro e w1 ⟨rfl, hp⟩
  obtain ⟨v1, hw1, hn1, hk1⟩ := hp
  have HW1 : Hid (IsW w1 g v1 (xs ++ be4 (n / 4294967296)) ∧ NewRow w v v1 ∧ Kept w w1 (fun k => k = g ∨ v.ownBlock = some k)) := ⟨hw1, hn1, hk1⟩
  clear hw1 hn1 hk1
  go_wp2_with fail
  refine (wUint32_any g v1 _ (n % 4294967296) _ HW1.out.1 (by omega) (by omega) (by simp [be4]; omega)).mono ?_
  rintro e w2 ⟨rfl, hp2⟩
  have hp3 := Puts.next HW1.out.2.1 HW1.out.2.2 hp2
  rw [List.append_assoc] at hp3
  have HP : Hid (Puts w g v (xs ++ be8 n) w2) := hp3
  clear hp2 hp3
  go_wp2
  go_end0
  exact ⟨rfl, HP.out⟩

set_option maxHeartbeats 400000 in
theorem wInt64_any (g : Nat) (v : Value) (xs : List Int) (n : Int) (w : World) (h : IsW w g v xs) (hb : xs.length + 8 ≤ 140737488355328) :
    Calls Tryz.prog 68 #[.pointer (some ⟨g, 0, none⟩), .int .i64 n] w fun e w' => e = .returned (.tuple #[]) ∧ Puts w g v (xs ++ be8 (up64 n)) w' := by
  have H : Hid (IsW w g v xs) := h
  clear h
  go_enter Tryz.func68, Tryz.ntmps68
  go_wp2_with fail
  refine (wPut64_any g v xs (up64 n) _ H.out (up64_bd n).1 (up64_bd n).2 hb).mono ?_
  rintro e w1 ⟨rfl, hp⟩
  have HP : Hid (Puts w g v (xs ++ be8 (up64 n)) w1) := hp
  clear hp
  go_wp2
  go_end0
  exact ⟨rfl, HP.out⟩

end Go.Proofs.YtgeoocchdpehdaaGreatDoor

namespace Go.Proofs.YtgeoocchdpehdaaGreatDoor
open Go.RowKit
set_option maxRecDepth 8000

set_option maxHeartbeats 400000 in
theorem wRaw_any (g : Nat) (v u : Value) (xs ys : List Int) (w : World) (h : IsW w g v xs) (hu : Sees w u ys) (hb : xs.length + ys.length ≤ 140737488355328) :
    Calls Tryz.prog 17 #[.pointer (some ⟨g, 0, none⟩), u] w fun e w' => e = .returned (.tuple #[]) ∧ Puts w g v (xs ++ ys) w' := by
  have H : Hid (IsW w g v xs ∧ Sees w u ys) := ⟨h, hu⟩
  clear h hu
  go_enter Tryz.func17, Tryz.ntmps17
  go_wp2_with fail
  refine (add_any g v u xs ys _ H.out.1 H.out.2 hb).mono ?_
  rintro e w1 ⟨rfl, hp⟩
  have HP : Hid (Puts w g v (xs ++ ys) w1) := hp
  clear hp
  go_wp2
  go_end0
  exact ⟨rfl, HP.out⟩

end Go.Proofs.YtgeoocchdpehdaaGreatDoor

namespace Go.Proofs.YtgeoocchdpehdaaGreatDoor
open Go.RowKit
set_option maxRecDepth 8000

def b2i (b : Bool) : Int := if b then 1 else 0

set_option maxHeartbeats 400000 in
theorem wBool_any (g : Nat) (v : Value) (xs : List Int) (b : Bool) (w : World) (h : IsW w g v xs) (hb : xs.length + 1 ≤ 140737488355328) :
    Calls Tryz.prog 86 #[.pointer (some ⟨g, 0, none⟩), .bool b] w fun e w' => e = .returned (.tuple #[]) ∧ Puts w g v (xs ++ [b2i b]) w' := by
  have H : Hid (IsW w g v xs) := h
  clear h
  cases b
  · go_enter Tryz.func86, Tryz.ntmps86
    go_wp2_with fail
    refine (add_any g v _ xs [0] _ (H.out.alloc _) (sees_new _ [0] (by simp) rfl) hb).mono ?_
    rintro e w1 ⟨rfl, hp⟩
    have HP : Hid (Puts w g v (xs ++ [0]) w1) := hp.of_alloc
    clear hp
    go_wp2
    go_end0
    exact ⟨rfl, HP.out⟩
  · go_enter Tryz.func86, Tryz.ntmps86
    go_wp2_with fail
    refine (add_any g v _ xs [1] _ (H.out.alloc _) (sees_new _ [1] (by simp) rfl) hb).mono ?_
    rintro e w1 ⟨rfl, hp⟩
    have HP : Hid (Puts w g v (xs ++ [1]) w1) := hp.of_alloc
    clear hp
    go_wp2
    go_end0
    exact ⟨rfl, HP.out⟩

set_option maxHeartbeats 400000 in
theorem wInt8_any (g : Nat) (v : Value) (xs : List Int) (n : Int) (w : World) (h : IsW w g v xs) (hb : xs.length + 1 ≤ 140737488355328) :
    Calls Tryz.prog 36 #[.pointer (some ⟨g, 0, none⟩), .int .i8 n] w fun e w' => e = .returned (.tuple #[]) ∧ Puts w g v (xs ++ [n % 256]) w' := by
  have H : Hid (IsW w g v xs) := h
  clear h
  go_enter Tryz.func36, Tryz.ntmps36
  go_wp2_with fail
  refine (add_any g v _ xs [n % 256] _ (H.out.alloc _) (sees_new _ [n % 256] (by simp) rfl) hb).mono ?_
  rintro e w1 ⟨rfl, hp⟩
  have HP : Hid (Puts w g v (xs ++ [n % 256]) w1) := hp.of_alloc
  clear hp
  go_wp2
  go_end0
  exact ⟨rfl, HP.out⟩

set_option maxHeartbeats 400000 in
theorem wBuffer_any (g : Nat) (v u : Value) (xs ys : List Int) (w : World) (h : IsW w g v xs) (hu : Sees w u ys) (hap : ∀ k, liveB u = some k → k ≠ g ∧ v.ownBlock ≠ some k) (hl : ys.length ≤ 2147483647) (hb : xs.length + 4 + ys.length ≤ 140737488355328) :
    Calls Tryz.prog 96 #[.pointer (some ⟨g, 0, none⟩), u] w fun e w' => e = .returned (.tuple #[]) ∧ Puts w g v (xs ++ (be4 ys.length ++ ys)) w' := by
  have H : Hid (IsW w g v xs ∧ Sees w u ys ∧ ∀ k, liveB u = some k → k ≠ g ∧ v.ownBlock ≠ some k) := ⟨h, hu, hap⟩
  obtain ⟨ao, cap, rfl, q1, q2, _, _⟩ := hu
  unfold maxLen at q2
  clear h hap
  go_enter Tryz.func96, Tryz.ntmps96
  go_wp2_with fail
  refine (wInt32_any g v xs ys.length _ H.out.1 (by omega)).mono ?_
  rintro e w1 ⟨rfl, hp⟩
  rw [show up32 (ys.length : Int) = ys.length by unfold up32; omega] at hp
  obtain ⟨v1, hW1, hN1, hK1⟩ := hp
  have hs1 : Sees w1 (.slice ao ys.length cap) ys := H.out.2.1.keptL hK1 (fun k hk hs => by
    have := H.out.2.2 k hk
    rcases hs with hs | hs
    · exact this.1 hs
    · exact this.2 hs)
  have HW : Hid (IsW w1 g v1 (xs ++ be4 ys.length) ∧ Sees w1 (.slice ao ys.length cap) ys ∧ NewRow w v v1 ∧ Kept w w1 (fun k => k = g ∨ v.ownBlock = some k)) := ⟨hW1, hs1, hN1, hK1⟩
  clear hW1 hs1 hN1 hK1
  go_wp2_with fail
  refine (wRaw_any g v1 _ _ ys _ HW.out.1 HW.out.2.1 (by simp [be4]; omega)).mono ?_
  rintro e w2 ⟨rfl, hp2⟩
  have hp3 := Puts.next HW.out.2.2.1 HW.out.2.2.2 hp2
  rw [List.append_assoc] at hp3
  have HP : Hid (Puts w g v (xs ++ (be4 ys.length ++ ys)) w2) := hp3
  clear hp2 hp3
  go_wp2
  go_end0
  exact ⟨rfl, HP.out⟩

def txt (s : ByteArray) : List Int := s.data.toList.map fun b => (b.toNat : Int)
theorem txt_len (s : ByteArray) : (txt s).length = s.size := by unfold txt; rw [List.length_map, Array.length_toList]; rfl
theorem sees_text (w : World) (s : ByteArray) (hs : s.size ≤ maxLen) (mk : Nat × Nat) :
    Sees (w.drew.alloc (.cells (bytesRow s (grownCap w s.size 0 5)) 5 mk)) (.slice (some ⟨w.heap.size, 0, none⟩) s.size (grownCap w s.size 0 5)) (txt s) := by
  refine ⟨_, _, by rw [txt_len], by rw [txt_len]; exact grownCap_ge _ _ _ _, grownCap_le_maxLen _ _ _ _ hs, fun e => by simp at e, .inr ⟨_, _, rfl, fun i hi => ?_⟩⟩
  rw [txt_len] at hi
  have hi' : i < s.data.size := hi
  rw [Nat.zero_add]
  have := World.cell?_alloc_mark w.drew (bytesRow s (grownCap w s.size 0 5)) 5 mk i
  rw [show w.drew.heap.size = w.heap.size from rfl] at this
  rw [this, bytesRow_at s _ i hi']
  simp only [txt, List.getD_eq_getElem?_getD, List.getElem?_map, Array.getElem?_toList, Array.getElem?_eq_getElem hi', Option.map_some, Option.getD_some]

theorem IsW.drew {w : World} {g : Nat} {v : Value} {xs : List Int} (h : IsW w g v xs) : IsW w.drew g v xs := h.kept ((Kept.refl w (fun _ => False)).drewN 1) (fun h => h) (fun _ _ h => h)

theorem Puts.of_drew {w w' : World} {g : Nat} {v : Value} {xs : List Int} (h : Puts w.drew g v xs w') : Puts w g v xs w' := by
  obtain ⟨v', h1, h2, h3⟩ := h
  exact ⟨v', h1, h2, ⟨h3.os, h3.tape, h3.output, h3.size, h3.block⟩⟩

set_option maxHeartbeats 400000 in
theorem wText_any (g : Nat) (v : Value) (xs : List Int) (s : ByteArray) (w : World) (h : IsW w g v xs) (hl : s.size ≤ 2147483647) (hb : xs.length + 4 + s.size ≤ 140737488355328) :
    Calls Tryz.prog 134 #[.pointer (some ⟨g, 0, none⟩), .string s] w fun e w' => e = .returned (.tuple #[]) ∧ Puts w g v (xs ++ (be4 (txt s).length ++ txt s)) w' := by
  have H : Hid (IsW w g v xs) := h
  have hcv := run_bytes_of_string (P := Tryz.prog) w 9 30 5 s Tryz.underlying9 Tryz.underlying30 Tryz.underlying5
  have hgw : g < w.heap.size := lt_of_block h.1
  clear h
  go_enter Tryz.func134, Tryz.ntmps134
  go_wp2_with fail
  refine (wBuffer_any g v _ xs (txt s) _ (by exact (H.out.drew.alloc _)) (by exact sees_text w s (by unfold maxLen; omega) _) (fun k hk => ?_) (by rw [txt_len]; omega) (by rw [txt_len]; omega)).mono ?_
  · replace hk := live_own hk
    simp [Value.ownBlock] at hk
    subst hk
    refine ⟨by omega, fun e => ?_⟩
    have := (H.out.2.lt _ e).2
    omega
  rintro e w1 ⟨rfl, hp⟩
  have HP : Hid (Puts w g v (xs ++ (be4 (txt s).length ++ txt s)) w1) := hp.of_drew.of_alloc
  clear hp
  go_wp2
  go_end0
  exact ⟨rfl, HP.out⟩

end Go.Proofs.YtgeoocchdpehdaaGreatDoor

namespace Go.Proofs.YtgeoocchdpehdaaGreatDoor
open Go.RowKit
set_option maxRecDepth 8000

def txtB (s : ByteArray) : List Int := be4 (txt s).length ++ txt s
def idB (x : IdD) : List Int := txtB x.scheme ++ txtB x.name

theorem txtB_len (s : ByteArray) : (txtB s).length = 4 + s.size := by simp [txtB, be4, txt_len]; omega

theorem Puts.later {w w1 w2 : World} {g : Nat} {v : Value} {xs : List Int} (h : Puts w g v xs w1) (hb : Below w1.heap.size w1 w2) : Puts w g v xs w2 := by
  obtain ⟨v', h1, h2, h3⟩ := h
  refine ⟨v', h1.kept (Below.kept hb) ?_ ?_, h2, h3.trans (Below.kept hb) ?_⟩
  · have := lt_of_block h1.1; omega
  · intro k hk; have := (h1.2.lt k hk).2; omega
  · intro k hk h; have := h3.size; omega

theorem Puts.cell {w w1 : World} {g : Nat} {v : Value} {xs : List Int} (h : Puts w g v xs w1) {p : Addr} {u : Value} (hc : w.cell? p = some u) (hg : p.block ≠ g) (hv : v.ownBlock ≠ some p.block) : w1.cell? p = some u := by
  obtain ⟨v', h1, h2, h3⟩ := h
  exact h3.cell hc (fun e => by
    rcases e with e | e
    · exact hg e
    · exact hv e)

theorem IsW.lt {w : World} {g : Nat} {v : Value} {xs : List Int} (h : IsW w g v xs) : g < w.heap.size ∧ ∀ k, v.ownBlock = some k → k < w.heap.size :=
  ⟨lt_of_block h.1, fun k hk => (h.2.lt k hk).2⟩

theorem Puts.nam {w w1 : World} {g : Nat} {v : Value} {xs : List Int} (h : Puts w g v xs w1) (hn : Nam w) (hg : 1 < g) (hv : ∀ k, v.ownBlock = some k → 1 < k) : Nam w1 := by
  obtain ⟨v', h1, h2, h3⟩ := h
  refine hn.below (B := 1 + 1) ⟨h3.os, h3.tape, h3.output, h3.size, fun k hk => h3.block k (by have := hn.lt; omega) (fun e => ?_)⟩ (by omega)
  rcases e with e | e
  · omega
  · have := hv k e; omega

set_option maxHeartbeats 400000 in
theorem putId_any (l : Value) (last wo : Int) (hl : l = lay last wo) (g : Nat) (v : Value) (xs : List Int) (x : IdD) (w : World) (h : IsW w g v xs) (h1 : x.scheme.size ≤ 2147483647) (h2 : x.name.size ≤ 2147483647) (hb : xs.length ≤ 70000000000000) :
    Calls Tryz.prog 138 #[l, .pointer (some ⟨g, 0, none⟩), .agg #[.string x.scheme, .string x.name]] w fun e w' => e = .returned (.tuple #[]) ∧ Puts w g v (xs ++ idB x) w' := by
  subst hl
  obtain ⟨scheme, name⟩ := x
  simp only at h1 h2 ⊢
  have hlt := h.lt
  have HV : Hid (IsW ((w.alloc (.cells #[.int .i8 last, .int .u16 wo] 132)).alloc (.cells #[.string scheme, .string name] 115)) g v xs) := (h.alloc _).alloc _
  have HL : Hid (g < w.heap.size ∧ ∀ k, v.ownBlock = some k → k < w.heap.size) := hlt
  clear h hlt
  go_enter Tryz.func138, Tryz.ntmps138
  go_wp2_with fail
  refine (wText_any g v xs scheme _ HV.out h1 (by omega)).mono ?_
  rintro e w1 ⟨rfl, hp⟩
  have c1 : w1.cell? ⟨w.heap.size + 1, 1, none⟩ = some (.string name) := hp.cell (by rw [cell_of_row _ _ _ _ _ _ (by have := heap_alloc_new (w.alloc (.cells #[.int .i8 last, .int .u16 wo] 132)) (.cells #[.string scheme, .string name] 115 (0, 0)); simpa using this)]; rfl) (by have := HL.out.1; show w.heap.size + 1 ≠ g; omega) (fun e => by have h := HL.out.2 _ e; have : w.heap.size + 1 < w.heap.size := h; omega)
  obtain ⟨v1, hW, hN, hK⟩ := hp
  have HW : Hid (IsW w1 g v1 (xs ++ (be4 (txt scheme).length ++ txt scheme)) ∧ NewRow _ v v1 ∧ Kept _ w1 (fun k => k = g ∨ v.ownBlock = some k)) := ⟨hW, hN, hK⟩
  clear hW hN hK
  go_wp2_with fail
  refine (wText_any g v1 _ name _ HW.out.1 h2 (by simp [be4, txt_len]; omega)).mono ?_
  rintro e w2 ⟨rfl, hp2⟩
  have HP : Hid (Puts w g v (xs ++ idB ⟨scheme, name⟩) w2) := by
    have := (Puts.next HW.out.2.1 HW.out.2.2 hp2).of_alloc.of_alloc
    rw [List.append_assoc] at this
    exact this
  clear hp2 HW c1
  go_wp2
  go_end0
  exact ⟨rfl, HP.out⟩

theorem putDefI (w : World) : CallsD Tryz.prog 157 #[] .returning w fun e u' w' => e = .returned (.tuple #[]) ∧ u' = .returning ∧ w' = w := by
  refine callsD_of_wpS Tryz.func157 rfl fun c₀ cs hu => ?_
  apply wpS_region
  simp [wpOpsS, go_sem, recoverD, hu, Tryz.ntmps157, bodyPostS, results, Tryz.results157]
  cases c₀
  simp_all

def idsB (l : List IdD) : List Int := l.flatMap idB
theorem idsB_next (l : List IdD) (k : Nat) (h : k < l.length) : idsB (l.take (k + 1)) = idsB (l.take k) ++ idB l[k] := by
  rw [List.take_succ_eq_append_getElem h]; simp only [idsB, List.flatMap_append, List.flatMap_cons, List.flatMap_nil, List.append_nil]

theorem idsB_len (l : List IdD) (h : ∀ x ∈ l, x.scheme.size ≤ 2147483647 ∧ x.name.size ≤ 2147483647) : (idsB l).length ≤ 4294967310 * l.length := by
  induction l with
  | nil => simp [idsB]
  | cons x l ih =>
    have e : idsB (x :: l) = idB x ++ idsB l := by simp [idsB]
    have h1 := h x (by simp)
    have h2 := ih (fun y hy => h y (by simp [hy]))
    rw [e, List.length_append, idB, List.length_append, txtB_len, txtB_len, List.length_cons]
    omega

set_option maxHeartbeats 1000000 in
theorem putListI_any (last wo : Int) (g : Nat) (v u : Value) (xs : List Int) (l : List IdD) (w : World) (h : IsW w g v xs) (hs : SeesR w u 2 (l.map IdD.cells)) (hr : l.length ≤ 4096) (hx : ∀ x ∈ l, x.scheme.size ≤ 2147483647 ∧ x.name.size ≤ 2147483647) (hb : xs.length ≤ 30000000000000) (hap : ∀ k, liveB u = some k → k ≠ g ∧ v.ownBlock ≠ some k ∧ k < w.heap.size) :
    Calls Tryz.prog 137 #[.pointer (some ⟨g, 0, none⟩), u, .func (.func 138) #[lay last wo] #[]] w fun e w' => e = .returned (.tuple #[]) ∧ Puts w g v (xs ++ (be4 l.length ++ idsB l)) w' := by
  have H : Hid (IsW w g v xs ∧ SeesR w u 2 (l.map IdD.cells)) := ⟨h, hs⟩
  have HL : Hid (g < w.heap.size ∧ ∀ k, v.ownBlock = some k → k < w.heap.size) := h.lt
  obtain ⟨ao, cap, rfl, hlc, hcm, h0, h3⟩ := hs
  rw [List.length_map] at hlc ⊢
  unfold maxLen at hcm
  clear h h3 h0
  have hfn : ∀ w, (binOp .eql 144 (.func (.func 138) #[lay last wo] #[]) .nilFunc).run Tryz.prog w = .ok (.bool false) w := fun _ => by kernel_rfl
  go_enter_defers Tryz.func137, Tryz.ntmps137
  go_wp2_with fail
  refine (wInt32_any g v xs l.length _ H.out.1 (by omega)).mono ?_
  rintro e w1 ⟨rfl, hp⟩
  rw [show up32 (l.length : Int) = l.length by unfold up32; omega] at hp
  have HP : Hid (Puts w g v (xs ++ be4 l.length) w1) := hp
  clear hp
  go_wp2
  go_loopw [7, 19] (fun _ i wr => ∃ k : Nat, k ≤ l.length ∧ i = .int .i64 k ∧ Puts w g v (xs ++ be4 l.length ++ idsB (l.take k)) wr) (fun _ i _ => l.length - (intOf i).toNat)
  case atStart => exact ⟨0, Nat.zero_le _, rfl, by simpa [idsB] using HP.out⟩
  case round =>
    clear HP
    obtain ⟨k, hk, rfl, hp⟩ := hrel
    have HP : Hid (Puts w g v (xs ++ be4 l.length ++ idsB (l.take k)) wr) := hp
    clear hp
    by_cases hlt : k < l.length
    · have hap' : ∀ k, liveB (Value.slice ao (l.map IdD.cells).length cap) = some k → k ≠ g ∧ v.ownBlock ≠ some k ∧ k < w.heap.size := hap
      obtain ⟨ao', cap', e, _, _, _, h3⟩ := H.out.2
      simp at e
      obtain ⟨rfl, rfl⟩ := e
      rcases h3 with h3 | ⟨b, off, rfl, h3⟩
      · have : l.length = 0 := by simpa using congrArg List.length h3
        omega
      · have hbk := hap' b (live_at (by rw [List.length_map]; omega))
        have c0 := HP.out.cell (h3 k (by simpa using hlt) 0 (by omega)) hbk.1 hbk.2.1
        have c1 := HP.out.cell (h3 k (by simpa using hlt) 1 (by omega)) hbk.1 hbk.2.1
        simp [IdD.cells] at c0 c1
        have HT : Hid (idsB (l.take (k + 1)) = idsB (l.take k) ++ idB l[k]) := idsB_next l k hlt
        have HX : Hid _ := hx l[k] (List.getElem_mem hlt)
        have HN : Hid ((idsB (l.take k)).length ≤ 4294967310 * (l.take k).length) := idsB_len (l.take k) (fun x hx' => hx x (List.mem_of_mem_take hx'))
        clear h3 hap hap' hx
        generalize l[k] = x at *
        go_wp2_with fail
        obtain ⟨vk, hW, hNw, hK⟩ := (HP.out.later (one_alloc wr _))
        refine (putId_any (lay last wo) last wo rfl g vk _ x _ hW HX.out.1 HX.out.2 (by have := HN.out; simp [be4] at this ⊢; omega)).mono ?_
        rintro e w2 ⟨rfl, hp2⟩
        have hp3 := Puts.next hNw hK hp2
        rw [List.append_assoc, ← HT.out] at hp3
        have HP2 : Hid (Puts w g v (xs ++ be4 l.length ++ idsB (l.take (k + 1))) w2) := hp3
        clear hp2 hp3 hW hNw hK
        go_wp2
        go_roundw
        case rel => exact ⟨k + 1, by omega, by go_num, HP2.out⟩
        case measure => simp [intOf]; omega
    · obtain rfl : k = l.length := by omega
      have hp := HP.out
      rw [List.take_length] at hp
      have HQ : Hid (Puts w g v (xs ++ (be4 l.length ++ idsB l)) wr) := by rw [← List.append_assoc]; exact hp
      clear hp HP
      go_wp2
      refine leaves_cons (f := 157) (args := #[]) (by simp) (by simp [go_sem]) ?_
      refine (putDefI _).mono ?_
      rintro e u' w'' ⟨rfl, rfl, rfl⟩
      exact ⟨_, results_none rfl _ _ _, rfl, HQ.out⟩

end Go.Proofs.YtgeoocchdpehdaaGreatDoor
