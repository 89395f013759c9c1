/- What the Writer's calls of package pack do: each puts the bytes of its value behind those that the Writer has. -/
import Derived.Test.YtblgipjipeaemaaGreatDoorProg
import Derived.Test.YtblgipjipeaemaaGreatDoorMemJ
import Derived.Lib.SliceRun
namespace Go.Proofs.YtblgipjipeaemaaGreatDoor
open Go.RowKit
set_option maxRecDepth 8000

theorem Tryz.infoByte' : (Tryz.prog.info? 5).map (fun i => (i.zero, i.size, i.bytes)) = some (some (.int .u8 0), 1, 1) := by kernel_rfl

/-- What a call that puts bytes leaves: the Writer at g with the bytes xs; all else but its row is as it was. -/
def Puts (w : World) (g : Nat) (v : Value) (xs : List Int) (w' : World) : Prop :=
  ∃ v', IsW w' g v' xs ∧ NewRow w v v' ∧ Kept w w' (fun k => k = g ∨ v.ownBlock = some k)

/-- Behind an append to the field and the store of what it answers. -/
theorem puts_mk {w w1 : World} {g : Nat} {v v' : Value} {xs ys : List Int} (h : IsW w g v xs) (hown : Owns w1 0 v' (xs ++ ys)) (hgrow : w.grownBy w1 v.ownBlock) (hnew : NewRow w v v') :
    Puts w g v (xs ++ ys) (w1.setCell ⟨g, 0, none⟩ v') := by
  have hk : Kept w w1 (fun k => k = g ∨ v.ownBlock = some k) := (Kept.refl w _).grown hgrow (fun k _ e => .inr e)
  have hg1 : w1.heap[g]? = some (.cells #[v] 37 (0, 0)) := by
    rw [hgrow.block g (lt_of_block h.1) (fun e => h.apart e.symm)]; exact h.1
  have hap : v'.ownBlock ≠ some g := by
    rcases hnew with e | ⟨k, e, hk⟩
    · rw [e]; exact h.apart
    · rw [e]; intro e2; simp at e2; subst e2; have := lt_of_block h.1; omega
  exact ⟨v', ⟨one_setCell hg1, ownsRow_setCell_other hown hap _⟩, hnew, hk.setCell _ _ (fun _ => .inl rfl)⟩

theorem Puts.next {w w1 w2 : World} {g : Nat} {v v1 : Value} {ys : List Int} (hnew : NewRow w v v1) (hk : Kept w w1 (fun k => k = g ∨ v.ownBlock = some k)) (h2 : Puts w1 g v1 ys w2) : Puts w g v ys w2 := by
  obtain ⟨v2, k1, k2, k3⟩ := h2
  refine ⟨v2, k1, ?_, hk.trans k3 ?_⟩
  · rcases k2 with e | ⟨b, e, hb⟩
    · rcases hnew with e' | ⟨b, e', hb⟩
      · exact .inl (e.trans e')
      · exact .inr ⟨b, e.trans e', hb⟩
    · exact .inr ⟨b, e, by have := hk.size; omega⟩
  · intro b hb hs
    rcases hs with hs | hs
    · exact .inl hs
    · rcases hnew with e' | ⟨b', e', hb'⟩
      · exact .inr (by rw [← e']; exact hs)
      · rw [e'] at hs; simp at hs; omega

set_option maxHeartbeats 400000 in
theorem add_any (g : Nat) (v u : Value) (xs ys : List Int) (w : World) (h : IsW w g v xs) (hu : Sees w u ys) (hb : xs.length + ys.length ≤ 140737488355328) :
    Calls Tryz.prog 74 #[.pointer (some ⟨g, 0, none⟩), u] w fun e w' => e = .returned (.tuple #[]) ∧ Puts w g v (xs ++ ys) w' := by
  obtain ⟨i0, hi, hz0, hz1, hz2⟩ := info_parts Tryz.infoByte'
  have hc := cell_of_one h.1
  have hf := free_of_one h.1
  have H : Hid (IsW w g v xs) := h
  have HU : Hid (Sees w u ys) := hu
  clear h hu
  go_enter Tryz.func74, Tryz.ntmps74
  go_wp2_with (at_builtin; refine wpList_app _ rfl _ _ 22 rfl i0 Tryz.underlying22 hi hz0 hz1 hz2 v u xs ys rfl rfl H.out.2 HU.out hb ?_)
  intro v' w1 hown hgrow hnew
  have R := puts_mk H.out hown hgrow hnew
  have hc1 : w1.cell? ⟨g, 0, none⟩ = some v := hgrow.cell hc (fun e => H.out.apart e.symm)
  have hf1 : w1.frozen? ⟨g, 0, none⟩ = false := by
    rw [World.frozen?_of_block (hgrow.block g (lt_of_block H.out.1) (fun e => H.out.apart e.symm))]; exact hf
  have HR : Hid (Puts w g v (xs ++ ys) (w1.setCell ⟨g, 0, none⟩ v')) := R
  obtain ⟨ao', n', c', hv'⟩ := owns_shape hown
  clear R hown hgrow hnew hc hf
  subst hv'
  go_wp2
  go_end0
  exact ⟨rfl, HR.out⟩

/-- A list of bytes that has just been laid in a new block. -/
theorem sees_new {w : World} (cs : Array Value) (ys : List Int) (hl : ys.length ≤ 4096) (h : cs.toList = ys.map (Value.int .u8)) : Sees (w.alloc (.cells cs 5)) (.slice (some ⟨w.heap.size, 0, none⟩) ys.length ys.length) ys := by
  refine ⟨_, _, rfl, Nat.le_refl _, by unfold maxLen; omega, fun e => by simp at e, .inr ⟨_, _, rfl, fun i hi => ?_⟩⟩
  rw [Nat.zero_add, cell_of_row _ w.heap.size i cs 5 (0, 0) (heap_alloc_new w _), ← Array.getElem?_toList, h]
  simp [hi, List.getD_eq_getElem?_getD]

theorem IsW.alloc {w : World} {g : Nat} {v : Value} {xs : List Int} (h : IsW w g v xs) (o : Obj) : IsW (w.alloc o) g v xs := h.kept ((Kept.refl w (fun _ => False)).alloc o) (fun h => h) (fun _ _ h => h)

theorem Puts.of_alloc {w w' : World} {o : Obj} {g : Nat} {v : Value} {xs : List Int} (h : Puts (w.alloc o) g v xs w') : Puts w g v xs w' := by
  obtain ⟨v', h1, h2, h3⟩ := h
  refine ⟨v', h1, ?_, ((Kept.refl w _).alloc o).trans h3 (fun _ _ h => h)⟩
  rcases h2 with e | ⟨k, e, hk⟩
  · exact .inl e
  · exact .inr ⟨k, e, by simp at hk; omega⟩

/-- The bytes of a number from 0 on, the highest first. -/
def be4 (n : Int) : List Int := [n / 16777216, n / 65536 % 256, n / 256 % 256, n % 256]

set_option maxHeartbeats 400000 in
theorem wUint32_any (g : Nat) (v : Value) (xs : List Int) (n : Int) (w : World) (h : IsW w g v xs) (hn : 0 ≤ n) (hn' : n < 4294967296) (hb : xs.length + 4 ≤ 140737488355328) :
    Calls Tryz.prog 29 #[.pointer (some ⟨g, 0, none⟩), .int .u32 n] w fun e w' => e = .returned (.tuple #[]) ∧ Puts w g v (xs ++ be4 n) w' := by
  have H : Hid (IsW w g v xs) := h
  clear h
  go_enter Tryz.func29, Tryz.ntmps29
  go_wp2_with fail
  refine (add_any g v _ xs (be4 n) _ (H.out.alloc _) (sees_new _ (be4 n) (by simp [be4]) (by simp [be4])) (by simp [be4]; omega)).mono ?_
  rintro e w1 ⟨rfl, hp⟩
  have HP : Hid (Puts w g v (xs ++ be4 n) w1) := hp.of_alloc
  clear hp
  go_wp2
  go_end0
  exact ⟨rfl, HP.out⟩

/-- An int32's number in its four bytes: below 0 2^32 more. -/
def up32 (n : Int) : Int := n % 4294967296

set_option maxHeartbeats 400000 in
theorem wInt32_any (g : Nat) (v : Value) (xs : List Int) (n : Int) (w : World) (h : IsW w g v xs) (hb : xs.length + 4 ≤ 140737488355328) :
    Calls Tryz.prog 13 #[.pointer (some ⟨g, 0, none⟩), .int .i32 n] w fun e w' => e = .returned (.tuple #[]) ∧ Puts w g v (xs ++ be4 (up32 n)) w' := by
  have H : Hid (IsW w g v xs) := h
  clear h
  go_enter Tryz.func13, Tryz.ntmps13
  go_wp2_with fail
  refine (wUint32_any g v xs (up32 n) _ H.out (by unfold up32; omega) (by unfold up32; omega) hb).mono ?_
  rintro e w1 ⟨rfl, hp⟩
  have HP : Hid (Puts w g v (xs ++ be4 (up32 n)) w1) := hp
  clear hp
  go_wp2
  go_end0
  exact ⟨rfl, HP.out⟩

/-- bytes.Clone: nil of nil; else the bytes in a new row. -/
theorem clone_any (u : Value) (ys : List Int) (w : World) (hu : Sees w u ys) (hb : ys.length ≤ 140737488355328) :
    Calls Tryz.prog 18 #[u] w fun e w' => ∃ v', e = .returned v' ∧ Owns w' w.heap.size v' ys ∧ Below w.heap.size w w' := by
  obtain ⟨i0, hi, hz0, hz1, hz2⟩ := info_parts Tryz.infoByte'
  have HU : Hid (Sees w u ys) := hu
  obtain ⟨ao, cap, rfl, h1, h2, h0, h3⟩ := hu
  cases ao with
  | none =>
    have hy : ys = [] := List.eq_nil_of_length_eq_zero (by have := h0 rfl; omega)
    subst hy
    obtain rfl := h0 rfl
    clear HU h3
    have hnil : ∀ w, (binOp .eql 22 (.slice none 0 0) (.slice none 0 0)).run Tryz.prog w = .ok (.bool true) w := fun w => Lib.run_eql_slice_nil w 22 5 none 0 0 0 0 Tryz.underlying22
    go_enter Tryz.func18, Tryz.ntmps18
    go_wp2
    go_ret
    exact ⟨_, rfl, World.ownsRow_nil _ _ _ _, Below.refl _ _⟩
  | some ad =>
    clear h3 h0
    have hnil : ∀ w, (binOp .eql 22 (.slice (some ad) ys.length cap) (.slice none 0 0)).run Tryz.prog w = .ok (.bool false) w := fun w => Lib.run_eql_slice_nil w 22 5 (some ad) ys.length cap 0 0 Tryz.underlying22
    have hown0 : Owns (w.alloc (.cells #[] 5)) 0 (.slice (some ⟨w.heap.size, 0, none⟩) 0 0) [] := World.ownsRow_lit w #[] 0 (Nat.zero_le _) (Nat.zero_le _) rfl
    have HO : Hid (Owns (w.alloc (.cells #[] 5)) 0 (.slice (some ⟨w.heap.size, 0, none⟩) 0 0) []) := hown0
    clear hown0
    go_enter Tryz.func18, Tryz.ntmps18
    go_wp2_with (at_builtin; refine wpList_app _ rfl (.tmp 5) (.tmp 6) 22 rfl i0 Tryz.underlying22 hi hz0 hz1 hz2 _ _ [] ys rfl rfl HO.out (HU.out.below ((Below.refl w.heap.size _).alloc (Nat.le_refl _) _) (Nat.le_refl _)) (by simpa using hb) ?_)
    intro v' w1 hown hgrow hnew
    have hbel : Below w.heap.size w w1 := ((Below.refl w.heap.size w).alloc (Nat.le_refl _) _).grown hgrow (by simp) (fun k hk => by simp [Value.ownBlock] at hk; omega)
    have hown' : Owns w1 w.heap.size v' ys := owns_base hown (fun k hk => by
      rcases hnew with e | ⟨j, e, hj⟩
      · rw [e] at hk; simp [Value.ownBlock] at hk; omega
      · rw [e] at hk; simp at hk hj; omega)
    have HR : Hid (Owns w1 w.heap.size v' ys) := hown'
    clear hown hgrow hnew HO HU hown'
    go_wp2
    go_ret
    exact ⟨_, rfl, HR.out, hbel⟩

set_option maxHeartbeats 400000 in
theorem wBytes_any (g : Nat) (v : Value) (xs : List Int) (w : World) (h : IsW w g v xs) (hb : xs.length ≤ 140737488355328) :
    Calls Tryz.prog 16 #[.pointer (some ⟨g, 0, none⟩)] w fun e w' => ∃ v', e = .returned v' ∧ Owns w' w.heap.size v' xs ∧ Below w.heap.size w w' := by
  have hc := cell_of_one h.1
  have H : Hid (IsW w g v xs) := h
  clear h
  go_enter Tryz.func16, Tryz.ntmps16
  go_wp2_with fail
  refine (clone_any v xs _ (Sees.own H.out.2) hb).mono ?_
  rintro e w1 ⟨v', rfl, hp⟩
  have HP : Hid (Owns w1 w.heap.size v' xs ∧ Below w.heap.size w w1) := hp
  clear hp
  go_wp2
  go_ret
  exact ⟨_, rfl, HP.out⟩

end Go.Proofs.YtblgipjipeaemaaGreatDoor
