/- The number of bytes (FNV-1a): lagoonref08.Number, digest.numberOf with its closure; lagoonref08.join. -/
import Derived.Test.YtgfcpmipcpgifaaProg
import Derived.Test.YtgfcpmipcpgifaaMem
import Derived.Test.YtgfcpmipcpgifaaRefAll
namespace Go.Proofs.Ytgfcpmipcpgifaa
open Go.RowKit
set_option maxRecDepth 8000

/-- One byte more. -/
def fnvS (h x : Int) : Int := IntKind.u64.wrap (bits BinOp.xor IntKind.u64 h x * 1099511628211)
/-- The number of bytes. -/
def fnv (xs : List Int) : Int := xs.foldl fnvS 14695981039346656037

theorem fnv_next (xs : List Int) (k : Nat) (hk : k < xs.length) : fnv (xs.take (k + 1)) = fnvS (fnv (xs.take k)) (xs.getD k 0) := by
  rw [take_next xs k hk]
  unfold fnv
  rw [List.foldl_append]
  rfl

theorem owns_alloc0 {w : World} {v : Value} {xs : List Int} (h : Owns w 0 v xs) (o : Obj) : Owns (w.alloc o) 0 v xs := Owns.kept h ((Kept.refl w (fun _ => False)).alloc o) (fun _ _ h => h)

set_option maxHeartbeats 400000 in
theorem refNumber_any (v : Value) (xs : List Int) (w : World) (h : Sees w v xs) (hb : Byts xs) :
    Calls Try.prog 13 #[v] w fun e w' => e = .returned (.int .u64 (fnv xs)) ∧ w' = w := by
  obtain ⟨ao, cap, rfl, hlc, hcm, _, h3⟩ := h
  unfold maxLen at hcm
  go_enter Try.func13, Try.ntmps13
  go_wp2
  go_loop [3, 4] (fun h i => ∃ k : Nat, k ≤ xs.length ∧ i = .int .i64 k ∧ h = .int .u64 (fnv (xs.take k))) (fun _ i => xs.length - (intOf i).toNat)
  case atStart => exact ⟨0, Nat.zero_le _, rfl, rfl⟩
  case round =>
    obtain ⟨k, hk, rfl, rfl⟩ := hrel
    by_cases hlt : k < xs.length
    · rcases h3 with h3 | ⟨b, off, rfl, h3⟩
      · subst h3; simp at hlt
      · have hc := h3 k hlt
        have hx := hb.nth k
        have HN : Hid _ := fnv_next xs k hlt
        generalize xs.getD k 0 = x at *
        generalize hA : fnv (xs.take k) = A at *
        clear hA h3 hb
        go_wp2
        go_round
        case rel => exact ⟨k + 1, by omega, by go_num, by rw [HN.out]; rfl⟩
        case measure => simp [intOf]; omega
    · obtain rfl : k = xs.length := by omega
      rw [List.take_length] at *
      go_wp2
      go_ret
      exact ⟨rfl, rfl⟩

set_option maxHeartbeats 400000 in
theorem take_any (g : Nat) (h x : Int) (w : World) (hc : w.cell? ⟨g, 0, none⟩ = some (.int .u64 h)) (hf : w.frozen? ⟨g, 0, none⟩ = false) (hx : 0 ≤ x ∧ x ≤ 255) :
    Calls Try.prog 17 #[.int .u8 x, .pointer (some ⟨g, 0, none⟩)] w fun e w' => e = .returned (.tuple #[]) ∧ w' = w.setCell ⟨g, 0, none⟩ (.int .u64 (fnvS h x)) := by
  go_enter Try.func17, Try.ntmps17
  go_wp2
  go_end0
  exact ⟨rfl, rfl⟩

set_option maxHeartbeats 400000 in
theorem numberOf_any (v : Value) (xs : List Int) (w : World) (h : Sees w v xs) (hb : Byts xs) :
    Calls Try.prog 7 #[v] w fun e w' => e = .returned (.int .u64 (fnv xs)) ∧ Below w.heap.size w w' := by
  obtain ⟨ao, cap, rfl, hlc, hcm, _, h3⟩ := h
  unfold maxLen at hcm
  go_enter Try.func7, Try.ntmps7
  go_wp2
  go_loopw [9] (fun i wr => ∃ k : Nat, k ≤ xs.length ∧ i = .int .i64 k ∧ wr.heap[w.heap.size]? = some (.cells #[.int .u64 (fnv (xs.take k))] 23 (0, 0)) ∧ Below w.heap.size w wr) (fun i _ => xs.length - (intOf i).toNat)
  case atStart => exact ⟨0, Nat.zero_le _, rfl, heap_alloc_new w _, (Below.refl _ _).alloc (Nat.le_refl _) _⟩
  case round =>
    obtain ⟨k, hk, rfl, hcell, hbel⟩ := hrel
    have hce := cell_of_one hcell
    have hfr := free_of_one hcell
    have HC : Hid _ := hcell
    clear hcell
    by_cases hlt : k < xs.length
    · rcases h3 with h3 | ⟨b, off, rfl, h3⟩
      · subst h3; simp at hlt
      · have hc := cell_later (h3 k hlt) hbel (Nat.le_refl _)
        have hx := hb.nth k
        have HN : Hid _ := fnv_next xs k hlt
        generalize xs.getD k 0 = x at *
        clear h3 hb
        go_wp2_with fail
        go_at_call 17
        refine (take_any w.heap.size _ x _ hce hfr hx).mono ?_
        rintro e w1 ⟨rfl, hw1⟩
        have HB : Hid (Below w.heap.size w w1 ∧ w1.heap[w.heap.size]? = some (.cells #[.int .u64 (fnv (xs.take (k + 1)))] 23 (0, 0))) := by
          subst hw1
          rw [HN.out]
          exact ⟨hbel.setCell (Nat.le_refl _) _, one_setCell HC.out⟩
        clear hw1 hbel HC hce hfr hc HN
        go_wp2
        go_roundw
        case rel => exact ⟨k + 1, by omega, by go_num, HB.out.2, HB.out.1⟩
        case measure => simp [intOf]; omega
    · obtain rfl : k = xs.length := by omega
      rw [List.take_length] at *
      clear h3 HC
      go_wp2
      go_ret
      exact ⟨rfl, hbel⟩

set_option maxHeartbeats 400000 in
theorem join_any (v u : Value) (xs ys : List Int) (w : World) (h : Owns w 0 v xs) (h' : Sees w u ys) (hap : ∀ k, u.ownBlock = some k → v.ownBlock ≠ some k) (hreach : xs.length + ys.length ≤ 70000000000000) :
    Calls Try.prog 10 #[v, u] w fun e w' => ∃ v', e = .returned v' ∧ Owns w' 0 v' (xs ++ ys) ∧ NewRow w v v' ∧ Kept w w' (fun k => v.ownBlock = some k) := by
  obtain ⟨ao, cap, rfl, hlc, hcm, _, h3⟩ := h'
  unfold maxLen at hcm
  obtain ⟨i0, hi, hz0, hz1, hz2⟩ := info_parts Try.infoByte
  have H3 : Hid _ := h3
  have H : Hid (Owns w 0 v xs) := h
  have HA : Hid _ := hap
  clear h3 h hap
  go_enter Try.func10, Try.ntmps10
  go_wp2
  go_loopw [0, 5] (fun vr i wr => ∃ k : Nat, k ≤ ys.length ∧ i = .int .i64 k ∧ Owns wr 0 vr (xs ++ ys.take k) ∧ NewRow w v vr ∧ Kept w wr (fun k => v.ownBlock = some k)) (fun _ i _ => ys.length - (intOf i).toNat)
  case atStart => exact ⟨0, Nat.zero_le _, rfl, by simpa using H.out, .inl rfl, Kept.refl _ _⟩
  case round =>
    clear H
    obtain ⟨k, hk, rfl, hown, hnew, hkp⟩ := hrel
    have HP : Hid (Owns wr 0 _ (xs ++ ys.take k) ∧ NewRow w v _ ∧ Kept w wr (fun k => v.ownBlock = some k)) := ⟨hown, hnew, hkp⟩
    clear hown hnew hkp
    by_cases hlt : k < ys.length
    · rcases H3.out with h3 | ⟨b, off, rfl, h3⟩
      · subst h3; simp at hlt
      · have hc := HP.out.2.2.cell (h3 k hlt) (HA.out b rfl)
        have HN : Hid (xs ++ ys.take (k + 1) = (xs ++ ys.take k) ++ [ys.getD k 0]) := by show _ = _; rw [take_next ys k hlt]; simp
        have HL : Hid ((xs ++ ys.take k).length ≤ xs.length + k) := by show _ ≤ _; simp; omega
        clear h3 H3
        generalize ys.getD k 0 = x at *
        generalize xs ++ ys.take k = zs at *
        go_wp2_with (at_builtin; refine wpList_app _ rfl _ _ 28 rfl i0 Try.underlying28 hi hz0 hz1 hz2 _ _ zs [x] rfl rfl (owns_alloc0 HP.out.1 _) (sees_new _ [x] (by simp) rfl) ?c1 ?_)
        case c1 => have := HL.out; simp; omega
        intro v' w1 hown' hgrow hnew'
        have HR : Hid (Owns w1 0 v' (zs ++ [x]) ∧ NewRow w v v' ∧ Kept w w1 (fun k => v.ownBlock = some k)) := by
          obtain ⟨ho, hn, hk⟩ := HP.out
          refine ⟨hown', ?_, (hk.alloc _).grown hgrow ?_⟩
          · rcases hnew' with e | ⟨j, e, hj⟩
            · rcases hn with e' | ⟨j, e', hj⟩
              · exact .inl (e.trans e')
              · exact .inr ⟨j, e.trans e', hj⟩
            · exact .inr ⟨j, e, by have := hk.size; simp at hj; omega⟩
          · intro j hj e
            rcases hn with e' | ⟨i, e', hi⟩
            · rw [← e']; exact e
            · rw [e'] at e; simp at e; omega
        obtain ⟨ao', n', c', hv'⟩ := owns_shape hown'
        clear hown' hgrow hnew' HP hc
        subst hv'
        go_wp2
        go_roundw
        case rel => exact ⟨k + 1, by omega, by go_num, by rw [HN.out]; exact HR.out.1, HR.out.2⟩
        case measure => simp [intOf]; omega
    · obtain rfl : k = ys.length := by omega
      rw [List.take_length] at *
      obtain ⟨ao', n', c', hv'⟩ := owns_shape HP.out.1
      subst hv'
      clear H3 HA
      go_wp2
      go_ret
      exact ⟨_, rfl, HP.out⟩
end Go.Proofs.Ytgfcpmipcpgifaa
