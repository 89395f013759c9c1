/- What path's split, Parent, Base and Join answer. -/
import Derived.Test.YtgaemldkpfbomabDoorPaT
namespace Go.Proofs.YtgaemldkpfbomabDoor
open Go.RowKit Go.Shelf
set_option maxRecDepth 8000

/-- A text, parted at its last slash. -/
def cutL : Bs → Option (Bs × Bs)
  | [] => none
  | x :: r => match cutL r with
    | some (a, b) => some (x :: a, b)
    | none => if x = 47 then some ([], r) else none

theorem cutL_none : ∀ {l : Bs}, cutL l = none → NoSlash l
  | [], _ => by simp [NoSlash]
  | x :: r, h => by
    simp only [cutL] at h
    cases hr : cutL r with
    | some ab => rw [hr] at h; simp at h
    | none =>
      rw [hr] at h
      have := cutL_none hr
      simp only at h
      split at h
      · simp at h
      · rename_i hx
        simp only [NoSlash, List.mem_cons, not_or]
        exact ⟨fun e => hx e.symm, this⟩

theorem cutL_some : ∀ {l a b : Bs}, cutL l = some (a, b) → l = a ++ 47 :: b ∧ NoSlash b
  | [], _, _, h => by simp [cutL] at h
  | x :: r, a, b, h => by
    simp only [cutL] at h
    cases hr : cutL r with
    | some ab =>
      obtain ⟨a', b'⟩ := ab
      rw [hr] at h
      simp only [Option.some.injEq, Prod.mk.injEq] at h
      obtain ⟨rfl, rfl⟩ := h
      have := cutL_some hr
      exact ⟨by rw [List.cons_append, ← this.1], this.2⟩
    | none =>
      rw [hr] at h
      simp only at h
      split at h
      · rename_i hx
        simp only [Option.some.injEq, Prod.mk.injEq] at h
        obtain ⟨rfl, rfl⟩ := h
        exact ⟨by rw [hx]; rfl, cutL_none hr⟩
      · simp at h

theorem cutL_free {l : Bs} (h : NoSlash l) : cutL l = none := by
  cases hc : cutL l with
  | none => rfl
  | some ab =>
    obtain ⟨a, b⟩ := ab
    have := (cutL_some hc).1
    exact absurd (by rw [this]; simp) h

theorem cutL_app (b : Bs) (hb : NoSlash b) : ∀ a : Bs, cutL (a ++ 47 :: b) = some (a, b)
  | [] => by simp [cutL, cutL_free hb]
  | x :: a => by simp only [List.cons_append, cutL, cutL_app b hb a]

/-- The path above one. -/
def parL (l : Bs) : Bs := if l = [47] ∨ isPb l = false then [] else match cutL l with | some (a, _) => (if a = [] then [47] else a) | none => []
/-- A path's last name. -/
def basL (l : Bs) : Bs := if l = [47] ∨ isPb l = false then [] else match cutL l with | some (_, b) => b | none => []

theorem isPb_head {l : Bs} (h : isPb l = true) (hl : l.length ≤ 4294967296) : ∃ r, l = 47 :: r := by
  rcases (isPb_iff hl).1 h with rfl | ⟨r, e, _⟩
  · exact ⟨[], rfl⟩
  · exact ⟨r, e⟩

theorem cut_path {l : Bs} (h : isPb l = true) (hl : l.length ≤ 4294967296) : ∃ a b, cutL l = some (a, b) ∧ l = a ++ 47 :: b ∧ NoSlash b := by
  obtain ⟨r, hr⟩ := isPb_head h hl
  cases hc : cutL l with
  | none => exact absurd (by rw [hr]; simp) (cutL_none hc)
  | some ab => exact ⟨ab.1, ab.2, rfl, cutL_some hc⟩

set_option maxHeartbeats 1000000 in
theorem split_any (s : ByteArray) (w : World) (hl : s.size ≤ 4294967296) :
    Calls Tryd.prog 15 #[.string s] w fun e w' => e = .returned (.tuple #[bytesV (parL s.data.toList), bytesV (basL s.data.toList)]) ∧ Below w.heap.size w w' := by
  have e1 := eq_list' s [47]
  by_cases h47 : s.data.toList = [47]
  · have hp : parL s.data.toList = [] := by unfold parL; rw [if_pos (.inl h47)]
    have hb : basL s.data.toList = [] := by unfold basL; rw [if_pos (.inl h47)]
    rw [hp, hb]
    rw [decide_eq_true h47] at e1
    clear h47 hp hb
    go_enter Tryd.func15, Tryd.ntmps15
    go_wp2
    go_ret2
    exact ⟨rfl, Below.refl _ _⟩
  · rw [decide_eq_false h47] at e1
    cases hi : isPb s.data.toList with
    | false =>
      have hp : parL s.data.toList = [] := by unfold parL; rw [if_pos (.inr hi)]
      have hb : basL s.data.toList = [] := by unfold basL; rw [if_pos (.inr hi)]
      rw [hp, hb]
      clear h47 hp hb
      go_enter Tryd.func15, Tryd.ntmps15
      go_wp2_with (go_at_call 16; refine (isPath_any _ _ hl).mono ?_; rintro e w1 ⟨rfl, hb1⟩; rw [hi])
      go_ret2
      exact ⟨rfl, hb1⟩
    | true =>
      obtain ⟨a, b, hc, hab, hn⟩ := cut_path hi (by rw [← size_list]; exact hl)
      have hcond : ¬ (s.data.toList = [47] ∨ isPb s.data.toList = false) := by rintro (h | h); exact h47 h; rw [hi] at h; simp at h
      have hp : parL s.data.toList = if a = [] then [47] else a := by unfold parL; rw [if_neg hcond, hc]
      have hb : basL s.data.toList = b := by unfold basL; rw [if_neg hcond, hc]
      have hz : s.size = a.length + 1 + b.length := by rw [size_list, hab]; simp; omega
      have htk : s.data.toList.take (max (a.length + 1 - 1) 1) = if a = [] then [47] else a := by
        rw [hab]
        by_cases ha : a = []
        · subst ha; simp
        · have : 1 ≤ a.length := List.length_pos_iff.2 ha
          rw [if_neg ha, Nat.add_sub_cancel, Nat.max_eq_left this]
          simp
      have hbv : bytesV b = .string (s.extract (a.length + 1) s.size) := by
        unfold bytesV
        congr 1
        apply eq_of_list
        rw [Lib.extract_eq, list_bytes]
        show b = ((s.data.toList.drop (a.length + 1)).take _)
        rw [List.take_of_length_le (by rw [List.length_drop, ← size_list]; exact Nat.le_refl _), hab]
        simp
      rw [hp, hb, ← htk, hbv]
      have HA : Hid (s.data.toList = a ++ 47 :: b ∧ NoSlash b) := ⟨hab, hn⟩
      have HAh : Hid (∀ w, Calls Tryd.prog 29 #[.string s, .int .i64 ((a.length : Int) + 1)] w fun e w' => e = .returned (bytesV (s.data.toList.take (max (a.length + 1 - 1) 1))) ∧ w' = w) := fun w => ahead_any s (a.length + 1) (by omega) (by omega) hl w
      generalize bytesV (s.data.toList.take (max (a.length + 1 - 1) 1)) = pv at *
      have hlt : a.length + 1 ≤ s.size := by omega
      clear hp hb htk hbv hcond hc hab hn hz h47
      go_enter Tryd.func15, Tryd.ntmps15
      go_wp2_with (first
        | (go_at_call 16; refine (isPath_any _ _ hl).mono ?_; rintro e w1 ⟨rfl, hb1⟩; rw [hi])
        | (go_at_call 28; refine (lastIndex_slash s a b HA.out.1 HA.out.2 hl _).mono ?_; rintro e w2 ⟨rfl, rfl⟩))
      have c1 : ((a.length : Int) + 1) ≤ s.size := by omega
      go_quiet ((go_at_call 29; exact Calls.quiet_of_same (HAh.out _)))
      go_wp2
      go_ret2
      exact ⟨rfl, below_drew hb1 _⟩

theorem parent_any (s : ByteArray) (w : World) (hl : s.size ≤ 4294967296) :
    Calls Tryd.prog 8 #[.string s] w fun e w' => e = .returned (bytesV (parL s.data.toList)) ∧ Below w.heap.size w w' := by
  go_enter Tryd.func8, Tryd.ntmps8
  go_wp2_with (go_at_call 15; refine (split_any _ _ hl).mono ?_; rintro e w1 ⟨rfl, hb1⟩)
  go_ret
  exact ⟨rfl, hb1⟩

theorem base_any (s : ByteArray) (w : World) (hl : s.size ≤ 4294967296) :
    Calls Tryd.prog 9 #[.string s] w fun e w' => e = .returned (bytesV (basL s.data.toList)) ∧ Below w.heap.size w w' := by
  go_enter Tryd.func9, Tryd.ntmps9
  go_wp2_with (go_at_call 15; refine (split_any _ _ hl).mono ?_; rintro e w1 ⟨rfl, hb1⟩)
  go_ret
  exact ⟨rfl, hb1⟩

/-- A path and a name below it. -/
def jn (d n : Bs) : Bs := if d = [47] then 47 :: n else d ++ 47 :: n

def joinV (d n : Bs) : Value := .tuple (if isPb d && nmB n && isPb (jn d n) then #[bytesV (jn d n), .int .i64 0] else #[.string ⟨#[]⟩, .int .i64 50])

theorem bytesV_list (s : ByteArray) (l : Bs) (h : s.data.toList = l) : bytesV l = .string s := by
  subst h; unfold bytesV; rw [bytes_self]

set_option maxHeartbeats 1000000 in
theorem join_any (d n : ByteArray) (w : World) (hd : d.size ≤ 2147483648) (hn : n.size ≤ 2147483640) :
    Calls Tryd.prog 10 #[.string d, .string n] w fun e w' => e = .returned (joinV d.data.toList n.data.toList) ∧ Below w.heap.size w w' := by
  cases h1 : isPb d.data.toList with
  | false =>
    have hv : joinV d.data.toList n.data.toList = .tuple #[.string ⟨#[]⟩, .int .i64 50] := by unfold joinV; rw [h1]; rfl
    rw [hv]
    clear hv
    go_enter Tryd.func10, Tryd.ntmps10
    go_wp2_with (go_at_call 16; refine (isPath_any _ _ (by omega)).mono ?_; rintro e w1 ⟨rfl, hb1⟩; rw [h1])
    go_ret2
    exact ⟨rfl, hb1⟩
  | true =>
    cases h2 : nmB n.data.toList with
    | false =>
      have hv : joinV d.data.toList n.data.toList = .tuple #[.string ⟨#[]⟩, .int .i64 50] := by unfold joinV; rw [h1, h2]; rfl
      rw [hv]
      clear hv
      go_enter Tryd.func10, Tryd.ntmps10
      go_wp2_with (first | (go_at_call 16; refine (isPath_any _ _ (by omega)).mono ?_; rintro e w1 ⟨rfl, hb1⟩; rw [h1]) | (go_at_call 17; refine (isName_any _ _ (by omega)).mono ?_; rintro e w2 ⟨rfl, hb2⟩; rw [h2]))
      go_ret2
      exact ⟨rfl, hb1.trans (hb2.mono hb1.size)⟩
    | true =>
      have e1 := eq_list' d [47]
      by_cases hr : d.data.toList = [47]
      · have hj : (d ++ n).data.toList = jn d.data.toList n.data.toList := by
          rw [app_list, hr]; unfold jn; rw [if_pos rfl]; rfl
        have hv : joinV d.data.toList n.data.toList = checkedV (d ++ n).data.toList := by unfold joinV checkedV; rw [h1, h2, hj]; rfl
        rw [hv]
        rw [decide_eq_true hr] at e1
        have e2 : (d.toList != [47]) = false := by simp [bne, e1]
        have hz := app_size d n
        have HC : Hid (∀ w, Calls Tryd.prog 13 #[.string (d ++ n)] w fun e w' => e = .returned (checkedV (d ++ n).data.toList) ∧ Below w.heap.size w w') := fun w => checked_any _ _ (by omega)
        have hvs : ∃ a b, checkedV (d ++ n).data.toList = .tuple #[a, b] := by
          unfold checkedV; split
          · exact ⟨_, _, rfl⟩
          · exact ⟨_, _, rfl⟩
        obtain ⟨va, vb, hab⟩ := hvs
        rw [hab] at HC ⊢
        clear hv hj hr hz hab
        go_enter Tryd.func10, Tryd.ntmps10
        go_wp2_with (first | (go_at_call 16; refine (isPath_any _ _ (by omega)).mono ?_; rintro e w1 ⟨rfl, hb1⟩; rw [h1]) | (go_at_call 17; refine (isName_any _ _ (by omega)).mono ?_; rintro e w2 ⟨rfl, hb2⟩; rw [h2]) | (go_at_call 13; refine (HC.out _).mono ?_; rintro e w3 ⟨rfl, hb3⟩))
        go_ret2
        have hb12 := hb1.trans (hb2.mono hb1.size)
        exact ⟨rfl, hb12.trans (hb3.mono hb12.size)⟩
      · have hj : (d ++ slashB ++ n).data.toList = jn d.data.toList n.data.toList := by
          rw [app_list, app_list]; unfold jn; rw [if_neg hr]; simp
        have hv : joinV d.data.toList n.data.toList = checkedV (d ++ slashB ++ n).data.toList := by unfold joinV checkedV; rw [h1, h2, hj]; rfl
        rw [hv]
        rw [decide_eq_false hr] at e1
        have e2 : (d.toList != [47]) = true := by simp [bne, e1]
        have hz : (d ++ slashB ++ n).size = d.size + 1 + n.size := by rw [app_size, app_size]; rfl
        have HC : Hid (∀ w, Calls Tryd.prog 13 #[.string (d ++ slashB ++ n)] w fun e w' => e = .returned (checkedV (d ++ slashB ++ n).data.toList) ∧ Below w.heap.size w w') := fun w => checked_any _ _ (by omega)
        have hvs : ∃ a b, checkedV (d ++ slashB ++ n).data.toList = .tuple #[a, b] := by
          unfold checkedV; split
          · exact ⟨_, _, rfl⟩
          · exact ⟨_, _, rfl⟩
        obtain ⟨va, vb, hab⟩ := hvs
        rw [hab] at HC ⊢
        clear hv hj hr hz hab
        go_enter Tryd.func10, Tryd.ntmps10
        go_wp2_with (first | (go_at_call 16; refine (isPath_any _ _ (by omega)).mono ?_; rintro e w1 ⟨rfl, hb1⟩; rw [h1]) | (go_at_call 17; refine (isName_any _ _ (by omega)).mono ?_; rintro e w2 ⟨rfl, hb2⟩; rw [h2]) | (go_at_call 13; refine (HC.out _).mono ?_; rintro e w3 ⟨rfl, hb3⟩))
        go_ret2
        have hb12 := hb1.trans (hb2.mono hb1.size)
        exact ⟨rfl, hb12.trans (hb3.mono hb12.size)⟩

end Go.Proofs.YtgaemldkpfbomabDoor
