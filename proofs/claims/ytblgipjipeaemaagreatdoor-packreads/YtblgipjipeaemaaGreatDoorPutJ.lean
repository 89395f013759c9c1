/- What pack.Sum and EqBytes of lagoonref00 answer: the Adler-32 sum of the bytes that are given; whether two lists of bytes are the same. -/
import Derived.Test.YtblgipjipeaemaaGreatDoorProg
import Derived.Test.YtblgipjipeaemaaGreatDoorBaseJ
import Derived.Test.YtblgipjipeaemaaGreatDoorWideJ
namespace Go.Proofs.YtblgipjipeaemaaGreatDoor
open Go.RowKit
set_option maxRecDepth 8000

set_option maxHeartbeats 400000 in
theorem packSum_any (v : Value) (xs : List Int) (w : World) (h : Sees w v xs) (hb : Byts xs) :
    Calls Tryz.prog 15 #[v] w fun e w' => e = .returned (.int .u32 (adler xs)) ∧ w' = w := by
  obtain ⟨ao, cap, rfl, hlc, hcm, _, h3⟩ := h
  unfold maxLen at hcm
  go_enter Tryz.func15, Tryz.ntmps15
  go_wp2
  go_loop [3, 4, 9] (fun lo hi i => ∃ k : Nat, k ≤ xs.length ∧ i = .int .i64 k ∧ lo = .int .u32 (adl (xs.take k)).1 ∧ hi = .int .u32 (adl (xs.take k)).2) (fun _ _ i => xs.length - (intOf i).toNat)
  case atStart => exact ⟨0, Nat.zero_le _, rfl, rfl, rfl⟩
  case round =>
    obtain ⟨k, hk, rfl, rfl, rfl⟩ := hrel
    have hd := adl_bd (xs.take k)
    by_cases hlt : k < xs.length
    · rcases h3 with h3 | ⟨b, off, rfl, h3⟩
      · subst h3; simp at hlt
      · have hc := h3 k hlt
        have hx := hb.nth k
        have HS : Hid _ := adl_next xs k hlt
        generalize xs.getD k 0 = x at *
        generalize hA : (adl (xs.take k)).1 = A at *
        generalize hB : (adl (xs.take k)).2 = B at *
        clear hA hB h3 hb
        go_wp2
        go_round
        case rel => exact ⟨k + 1, by omega, by go_num, by rw [HS.out.1], by rw [HS.out.2]⟩
        case measure => simp [intOf]; omega
    · obtain rfl : k = xs.length := by omega
      rw [List.take_length] at *
      go_wp2
      go_ret
      exact ⟨ret_int (adler_bits xs), rfl⟩

set_option maxHeartbeats 400000 in
theorem eqBytes_any (v u : Value) (xs ys : List Int) (w : World) (h : Sees w v xs) (g : Sees w u ys) :
    Calls Tryz.prog 8 #[v, u] w fun e w' => e = .returned (.bool (decide (xs = ys))) ∧ ∃ n, w' = w.drewN n := by
  obtain ⟨ao, cap, rfl, hlc, hcm, _, h3⟩ := h
  obtain ⟨bo, cbp, rfl, glc, gcm, _, g3⟩ := g
  unfold maxLen at hcm gcm
  by_cases hl : xs.length = ys.length
  · have hl1 : xs.length ≤ ys.length := by omega
    have hl2 : ys.length ≤ xs.length := by omega
    have hn0 : ((xs.length : Int) != (ys.length : Int)) = false := by simp; omega
    clear hl
    go_enter Tryz.func8, Tryz.ntmps8
    go_wp2
    go_loopw [5] (fun i wr => ∃ k m : Nat, k ≤ xs.length ∧ i = .int .i64 k ∧ xs.take k = ys.take k ∧ wr = w.drewN m) (fun i _ => xs.length - (intOf i).toNat)
    case atStart => exact ⟨0, 0, Nat.zero_le _, rfl, rfl, rfl⟩
    case round =>
      obtain ⟨k, m, hk, rfl, heq, rfl⟩ := hrel
      have HE : Hid _ := heq
      clear heq
      by_cases hlt : k < xs.length
      · rcases h3 with h3 | ⟨b, off, rfl, h3⟩
        · subst h3; simp at hlt
        · rcases g3 with g3 | ⟨b', off', rfl, g3⟩
          · have : ys.length = 0 := by rw [g3]; rfl
            omega
          · have hlt' : k < ys.length := by omega
            have hc := h3 k hlt
            have gc := g3 k hlt'
            have HN : Hid _ := take_next_eq hlt hlt' HE.out
            have HD : Hid _ := ne_of_nth (xs := xs) (ys := ys) k
            clear h3 g3
            generalize xs.getD k 0 = x at *
            generalize ys.getD k 0 = y at *
            by_cases hxy : x = y
            · subst hxy
              go_wp2
              go_region
              all_goals go_wp2
              all_goals go_roundw
              case rel => exact ⟨k + 1, _, by omega, by go_num, HN.out trivial, rfl⟩
              case measure => simp [intOf]; omega
            · have hne : (x != y) = true := by simp [hxy]
              clear hxy
              go_wp2
              go_region
              all_goals go_wp2
              all_goals go_ret
              have hxy : x ≠ y := by simpa using hne
              exact ⟨by rw [decide_eq_false (HD.out hxy)]; rfl, _, rfl⟩
      · have he : xs = ys := by
          have := HE.out
          rw [List.take_of_length_le (by omega), List.take_of_length_le (by omega)] at this
          exact this
        subst he
        go_wp2
        go_ret
        exact ⟨by simp, _, rfl⟩
  · have hn : ((xs.length : Int) != (ys.length : Int)) = true := by simp; omega
    have hq : xs ≠ ys := fun e => hl (by rw [e])
    have HQ : Hid _ := hq
    clear hl hq
    go_enter Tryz.func8, Tryz.ntmps8
    go_wp2
    go_ret
    exact ⟨by rw [decide_eq_false HQ.out]; rfl, 0, rfl⟩

end Go.Proofs.YtblgipjipeaemaaGreatDoor

/- What put of the statements does with a Writer: it puts one value's bytes, and answers the document's. -/
namespace Go.Proofs.YtblgipjipeaemaaGreatDoor
open Go.RowKit
set_option maxRecDepth 8000

/-- A call as the statements write it. -/
abbrev opv (kind on n : Int) (x : Nat) (s : ByteArray) (b : Value) : Value := .agg #[.int .i64 kind, .int .i64 on, .int .i64 n, .float .f64 x, .string s, b]
abbrev opc (kind on n : Int) (x : Nat) (s : ByteArray) (b : Value) : Obj := .cells #[.int .i64 kind, .int .i64 on, .int .i64 n, .float .f64 x, .string s, b] 46

/-- What put leaves: the document's bytes in new memory, and the Writer with them. -/
def PutTo (w : World) (g : Nat) (v : Value) (xs ys : List Int) (u : Value) (w' : World) : Prop := Sees w' u ys ∧ (∀ k, u.ownBlock = some k → w.heap.size ≤ k) ∧ Puts w g v (xs ++ ys) w'

/-- Behind the Writer's call and the document's own bytes. -/
theorem putTo_mk {w w1 w2 : World} {o : Obj} {g : Nat} {v u : Value} {xs ys : List Int} (hp : Puts (w.alloc o) g v (xs ++ ys) w1) (ho : Owns w2 w1.heap.size u ys) (hb : Below w1.heap.size w1 w2) : PutTo w g v xs ys u w2 := by
  obtain ⟨v', h1, h2, h3⟩ := hp
  have hs := h3.size
  simp at hs
  have hp2 : Puts w1 g v' (xs ++ ys) w2 := by
    refine ⟨v', h1.kept (Below.kept hb) (fun h => ?_) (fun k hk h => ?_), .inl rfl, (Below.kept hb).mono (fun k hk h => ?_)⟩
    · have := lt_of_block h1.1; omega
    · have := (h1.2.lt k hk).2; omega
    · omega
  refine ⟨Sees.own ho, fun k hk => ?_, ?_⟩
  · have := (ho.lt k hk).1; omega
  · exact Puts.of_alloc (Puts.next h2 h3 hp2)

theorem box_kept {w w1 : World} {o : Obj} {g : Nat} {v : Value} {xs zs : List Int} (h : IsW w g v xs) (hp : Puts (w.alloc o) g v zs w1) : w1.heap[w.heap.size]? = some o := by
  obtain ⟨v', _, _, h3⟩ := hp
  refine h3.heap (heap_alloc_new w o) (fun hs => ?_)
  rcases hs with hs | hs
  · have := lt_of_block h.1; omega
  · have := (h.2.lt _ hs).2; omega

section
variable {w : World} {b : Nat} {kind on n : Int} {x : Nat} {s : ByteArray} {u : Value}
theorem opc0 (h : w.heap[b]? = some (opc kind on n x s u)) : w.cell? ⟨b, 0, none⟩ = some (.int .i64 kind) := by rw [cell_of_row w b 0 _ _ _ h]; rfl
theorem opc2 (h : w.heap[b]? = some (opc kind on n x s u)) : w.cell? ⟨b, 2, none⟩ = some (.int .i64 n) := by rw [cell_of_row w b 2 _ _ _ h]; rfl
theorem opc3 (h : w.heap[b]? = some (opc kind on n x s u)) : w.cell? ⟨b, 3, none⟩ = some (.float .f64 x) := by rw [cell_of_row w b 3 _ _ _ h]; rfl
theorem opc4 (h : w.heap[b]? = some (opc kind on n x s u)) : w.cell? ⟨b, 4, none⟩ = some (.string s) := by rw [cell_of_row w b 4 _ _ _ h]; rfl
theorem opc5 (h : w.heap[b]? = some (opc kind on n x s u)) : w.cell? ⟨b, 5, none⟩ = some u := by rw [cell_of_row w b 5 _ _ _ h]; rfl
end

theorem wrap8_is (n : Int) : IntKind.i8.wrap n = if 128 ≤ n % 256 then n % 256 - 256 else n % 256 := by simp [IntKind.wrap, IntKind.bits, IntKind.signed]
theorem wrap8_bd (n : Int) : -128 ≤ IntKind.i8.wrap n ∧ IntKind.i8.wrap n ≤ 127 := by
  rw [wrap8_is]
  by_cases c : 128 ≤ n % 256
  · rw [if_pos c]; omega
  · rw [if_neg c]; omega

section
variable (g : Nat) (v : Value) (xs : List Int) (on n : Int) (x : Nat) (s : ByteArray) (ao : Option Addr) (l cap : Nat) (w : World)

end
end Go.Proofs.YtblgipjipeaemaaGreatDoor
