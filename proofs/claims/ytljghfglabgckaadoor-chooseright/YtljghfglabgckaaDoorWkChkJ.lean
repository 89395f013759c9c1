/- What put of package txn lays of a Delete without ids. -/
import Derived.Test.YtljghfglabgckaaDoorLeafSumJ
import Derived.Test.YtljghfglabgckaaDoorChk3J
import Derived.Test.YtljghfglabgckaaDoorWriteOkJ
namespace Go.Proofs.YtljghfglabgckaaDoor
open Go.RowKit
set_option maxRecDepth 8000

theorem nms_del : nms 8 0 2 = 329 := by decide

/-- The bytes of a Delete without ids. -/
def delB (s : ByteArray) (ver ses : Int) : List Int := [2] ++ txtB s ++ be4 (up32 ver) ++ be8 (up64 ses) ++ be4 0

abbrev delAgg (s : ByteArray) (ver ses : Int) : Array Value := #[.int .i8 2, .string s, .slice none 0 0, .slice none 0 0, .int .i32 ver, .bool false, .bool false, .int .i64 ses, .int .i32 0, .slice none 0 0, .slice none 0 0]

set_option maxHeartbeats 2000000 in
theorem put_del (g : Nat) (v : Value) (xs : List Int) (s : ByteArray) (ver ses : Int) (w : World) (h : IsW w g v xs) (hs : s.size ≤ 1000) (hb : xs.length ≤ 1000) (hn : Nam w) (hg : 0 < g) (hv : ∀ k, v.ownBlock = some k → 0 < k) :
    Calls Tryd.prog 36 #[lay 8 0, .pointer (some ⟨g, 0, none⟩), .agg (delAgg s ver ses)] w fun e w' => e = .returned (.tuple #[]) ∧ Puts w g v (xs ++ delB s ver ses) w' := by
  have a1 : bits .and .u16 329 1 = 1 := by decide
  have a2 : bits .and .u16 329 2 = 0 := by decide
  have a3 : bits .and .u16 329 4 = 0 := by decide
  have a4 : bits .and .u16 329 8 = 8 := by decide
  have a5 : bits .and .u16 329 16 = 0 := by decide
  have a6 : bits .and .u16 329 32 = 0 := by decide
  have a7 : bits .and .u16 329 64 = 64 := by decide
  have a8 : bits .and .u16 329 128 = 0 := by decide
  have a9 : bits .and .u16 329 256 = 256 := by decide
  have a10 : bits .and .u16 329 512 = 0 := by decide
  have HL : Hid (g < w.heap.size ∧ ∀ k, v.ownBlock = some k → k < w.heap.size) := h.lt
  obtain ⟨V, eV⟩ : ∃ V, V = ((w.alloc (.cells #[.int .i8 8, .int .u16 0] 79)).alloc (.cells (delAgg s ver ses) 47)) := ⟨_, rfl⟩
  have HV : Hid (IsW V g v xs ∧ Nam V ∧ (∀ zs W, Puts V g v zs W → Puts w g v zs W)) := by
    subst eV
    exact ⟨(h.alloc _).alloc _, hn.below (two_alloc w _ _) hn.lt, fun zs W hp => hp.of_alloc.of_alloc⟩
  have HC : Hid (∀ zs W, Puts V g v zs W → Nam W ∧ W.cell? ⟨w.heap.size, 0, none⟩ = some (.int .i8 8) ∧ W.cell? ⟨w.heap.size, 1, none⟩ = some (.int .u16 0) ∧ W.cell? ⟨w.heap.size + 1, 0, none⟩ = some (.int .i8 2) ∧ W.cell? ⟨w.heap.size + 1, 1, none⟩ = some (.string s) ∧ W.cell? ⟨w.heap.size + 1, 4, none⟩ = some (.int .i32 ver) ∧ W.cell? ⟨w.heap.size + 1, 7, none⟩ = some (.int .i64 ses) ∧ W.cell? ⟨w.heap.size + 1, 9, none⟩ = some (.slice none 0 0)) := by
    intro zs W hp
    have hlt := HL.out
    refine ⟨hp.nam HV.out.2.1 hg hv, ?_, ?_, ?_, ?_, ?_, ?_, ?_⟩
    iterate 2 (refine hp.cell (p := ⟨w.heap.size, _, none⟩) ?_ (by show w.heap.size ≠ g; omega) (fun e => by have h1 := hlt.2 _ e; have : w.heap.size < w.heap.size := h1; omega); subst eV; rw [World.cell?_alloc_lt _ _ _ (by simp), cell_of_row _ _ _ _ _ _ (heap_alloc_new _ _)]; rfl)
    all_goals (refine hp.cell (p := ⟨w.heap.size + 1, _, none⟩) ?_ (by show w.heap.size + 1 ≠ g; omega) (fun e => by have h1 := hlt.2 _ e; have : w.heap.size + 1 < w.heap.size := h1; omega); subst eV; rw [cell_of_row _ _ _ _ _ _ (by have := heap_alloc_new (w.alloc (.cells #[.int .i8 8, .int .u16 0] 79)) (.cells (delAgg s ver ses) 47 (0, 0)); simpa using this)]; rfl)
  have HE : Hid _ := eV
  clear h hn hg hv eV
  go_enter Tryd.func36, Tryd.ntmps36
  go_wp2_with fail
  rw [← HE.out]
  refine (wInt8_any g v xs 2 _ HV.out.1 (by omega)).mono ?_
  rintro e w1 ⟨rfl, hp1⟩
  have HP1 : Hid (Puts V g v (xs ++ [2 % 256]) w1) := hp1
  clear hp1
  obtain ⟨nm, l0, l1, r0, r1, r4, r7, r9⟩ := HC.out _ _ HP1.out
  go_wp2_with fail
  refine (names_any 8 0 2 _ nm (by omega)).mono ?_
  rintro e w2 ⟨rfl, b2⟩
  rw [nms_del]
  have HP2 : Hid (Puts V g v (xs ++ [2 % 256]) w2) := HP1.out.later b2
  clear b2 HP1 nm l0 l1 r0 r1 r4 r7 r9
  obtain ⟨nm, l0, l1, r0, r1, r4, r7, r9⟩ := HC.out _ _ HP2.out
  go_wp2_with fail
  obtain ⟨v3, hW, hN, hK⟩ := HP2.out
  refine (wText_any g v3 _ s _ hW (by omega) (by simp; omega)).mono ?_
  rintro e w3 ⟨rfl, hp⟩
  have HP3 : Hid (Puts V g v _ w3) := Puts.next hN hK hp
  clear hp hW hN hK HP2 nm l0 l1 r0 r1 r4 r7 r9
  obtain ⟨nm, l0, l1, r0, r1, r4, r7, r9⟩ := HC.out _ _ HP3.out
  go_wp2_with fail
  obtain ⟨v4, hW, hN, hK⟩ := HP3.out
  refine (wInt32_any g v4 _ ver _ hW (by simp [be4, txt_len]; omega)).mono ?_
  rintro e w4 ⟨rfl, hp⟩
  have HP4 : Hid (Puts V g v _ w4) := Puts.next hN hK hp
  clear hp hW hN hK HP3 nm l0 l1 r0 r1 r4 r7 r9
  obtain ⟨nm, l0, l1, r0, r1, r4, r7, r9⟩ := HC.out _ _ HP4.out
  go_wp2_with fail
  obtain ⟨v5, hW, hN, hK⟩ := HP4.out
  refine (wInt64_any g v5 _ ses _ hW (by simp [be4, txt_len]; omega)).mono ?_
  rintro e w5 ⟨rfl, hp⟩
  have HP5 : Hid (Puts V g v _ w5) := Puts.next hN hK hp
  clear hp hW hN hK HP4 nm l0 l1 r0 r1 r4 r7 r9
  obtain ⟨nm, l0, l1, r0, r1, r4, r7, r9⟩ := HC.out _ _ HP5.out
  go_wp2_with fail
  obtain ⟨v6, hW, hN, hK⟩ := HP5.out
  refine (putListI_any 8 0 g v6 (.slice none 0 0) _ [] _ hW (SeesR.nil _ _) (by simp) (fun x hx => by simp at hx) (by simp [be4, be8, txt_len]; omega) (fun k hk => by simp [liveB] at hk)).mono ?_
  rintro e w6 ⟨rfl, hp⟩
  have HP6 : Hid (Puts V g v _ w6) := Puts.next hN hK hp
  clear hp hW hN hK HP5 nm l0 l1 r0 r1 r4 r7 r9
  obtain ⟨nm, l0, l1, r0, r1, r4, r7, r9⟩ := HC.out _ _ HP6.out
  go_wp2_with fail
  go_end0
  refine ⟨rfl, HV.out.2.2 _ _ ?_⟩
  have hq := HP6.out
  simpa [delB, txtB, idsB] using hq

end Go.Proofs.YtljghfglabgckaaDoor

/- What txn.Check and txn.Write answer of the transaction that the statements' own first look makes. -/
namespace Go.Proofs.YtljghfglabgckaaDoor
open Go.RowKit
set_option maxRecDepth 8000

def pathW : ByteArray := ⟨#[47, 97]⟩
abbrev rqW : Array Value := #[.int .i8 2, .string pathW, .slice none 0 0, .slice none 0 0, .int .i32 (-1), .bool false, .bool false, .int .i64 0, .int .i32 0, .slice none 0 0, .slice none 0 0]
abbrev txW : Array Value := #[.int .u32 1, .int .u32 2, .int .i8 3, .int .u32 4, .int .i64 5, .int .i8 2, .string pathW, .slice none 0 0, .slice none 0 0, .int .i32 (-1), .bool false, .bool false, .int .i64 0, .int .i32 0, .slice none 0 0, .slice none 0 0]

theorem pathW_list : pathW.toList = [47, 97] := by simp [pathW]
theorem fillW : fillz (!pathW.toList.isEmpty) (decide (0 < 0)) (decide (0 < 0)) ((-1 : Int) != 0) false false ((0 : Int) != 0) ((0 : Int) != 0) (decide (0 < 0)) (decide (0 < 0)) = 9 := by
  rw [pathW_list]; decide

theorem bounded_works (W : World) : Calls Tryd.prog 64 #[.agg rqW] W fun r w' => r = .returned (.bool true) ∧ Below W.heap.size W w' := by
  have h := isBounded_true ⟨2, pathW, [], [], -1, false, false, 0, 0, []⟩ 0 (fun i => i.elim0) (.slice none 0 0) (.slice none 0 0) (.slice none 0 0) (.slice none 0 0) (fun i => i.elim0) (fun i => i.elim0) W
    ⟨none, 0, rfl, Nat.le_refl _, by unfold maxLen; omega, fun _ => rfl, .inl rfl⟩ (SeesR.nil W 3) (SeesR.nil W 2) (SeesR.nil W 11) (fun i => i.elim0) (by omega) (fun i => i.elim0) (by decide) (by decide) (by decide) (by decide) (by decide) (by decide) (by decide)
  exact h

theorem mayBe_works (W : World) (hn : Nam W) : Calls Tryd.prog 46 #[lay 8 0, .agg rqW] W fun r w' => r = .returned (.bool true) ∧ Below W.heap.size W w' := by
  have h := mayBe_bits 8 0 2 pathW none none none none 0 0 0 0 0 0 0 0 (-1) false false 0 0 329 9 true W hn (by omega) nms_del fillW (fun V _ => bounded_works V)
  have e : ((329 : Int) != 0 && (bits .andNot .u16 9 329 == 0) && (bits .andNot .u16 (need 2) 9 == 0) && true) = true := by decide
  rw [e] at h
  exact h

theorem check_works (W : World) (hn : Nam W) : Calls Tryd.prog 31 #[.agg txW] W fun r w' => r = .returned (.int .i64 0) ∧ Below W.heap.size W w' :=
  check_ok 1 2 3 4 5 2 pathW none none none none 0 0 0 0 0 0 0 0 (-1) false false 0 0 true W (by omega) (by omega) (by decide) (by decide) (fun V hV => mayBe_works V (hn.below hV hn.lt))

/-- The bytes of that transaction. -/
def wkAll : List Int := [0, 0, 0, 1, 0, 0, 0, 2, 3, 0, 0, 0, 4, 0, 0, 0, 0, 0, 0, 0, 5, 2, 0, 0, 0, 2, 47, 97, 255, 255, 255, 255, 0, 0, 0, 0, 0, 0, 0, 0, 0, 0, 0, 0]

theorem txt_pathW : txt pathW = [47, 97] := by rfl
theorem wkAll_eq : headB 1 2 3 4 5 ++ delB pathW (-1) 0 = wkAll := by
  simp [headB, delB, txtB, txt_pathW, be4, be8, up32, up64, wkAll]

theorem write_works (W : World) (hn : Nam W) : Calls Tryd.prog 26 #[.agg txW] W fun r w' => ∃ v, r = .returned (.tuple #[v, .int .i64 0]) ∧ Owns w' W.heap.size v wkAll ∧ Below W.heap.size W w' := by
  rw [← wkAll_eq]
  exact write_ok 1 2 3 4 5 2 pathW none none none none 0 0 0 0 0 0 0 0 (-1) false false 0 0 (delB pathW (-1) 0) W (by omega) (by omega) (by omega) (by omega) (by omega) (by omega) (by decide)
    (fun V hV => check_works V (hn.below hV hn.lt))
    (fun V g v xs hV hW hx hg hv => put_del g v xs pathW (-1) 0 V hW (by decide) hx (hn.below hV hn.lt) (by have := hn.lt; omega) (fun k hk => by have := hv k hk; have := hn.lt; omega))
end Go.Proofs.YtljghfglabgckaaDoor
