/-
  DERIVED: THE SHELF's CONTRACTS AT THIS DUMP, IN PLAIN WORDS (tools/lay-plain.mjs out of 'TryzShelf.lean', which tools/lay-shelf.mjs wrote): THE SAME DECLARATIONS UNDER THE SAME NAMES: 'import', 'namespace', 'open', 'def', 'theorem' AND NOTHING ELSE: no command of the shelf's: FOR A HAND-IN. Each laying: the table of numbers ('.._ren') and one theorem, a field a fact of the dump's own or the kernel's comparison; each contract: ONE APPLICATION.
-/
import Derived.Shelf.Strconv.Itoa0
import Derived.Shelf.Strconv.Itoa1
import Derived.Shelf.LaysM
import Derived.Shelf.Strconv.Itoa2
import Derived.Shelf.Strconv.Itoa3
import Derived.Test.YtehgibgeghhloaaGreatDoorProg
import Derived.Test.YtehgibgeghhloaaGreatDoorTurnJ
import Derived.Lib.SliceRun
namespace Go.Proofs
open Go.Shelf
def Tryz.laysM171_ren : Go.Shelf.Ren := ⟨fun | 171 => 143 | 243 => 164 | 246 => 168 | 283 => 169 | 284 => 170 | 285 => 171 | 286 => 172 | 129 => 174 | 317 => 173 | 318 => 175 | 319 => 176 | 320 => 177 | 337 => 178 | 338 => 179 | n => n, fun | 3 => 3 | 9 => 9 | 2 => 2 | 4 => 4 | 171 => 256 | 0 => 0 | 53 => 140 | 37 => 28 | 5 => 5 | 173 => 259 | 212 => 263 | 51 => 22 | 20 => 20 | 213 => 264 | 46 => 138 | 232 => 268 | 233 => 269 | n => n, fun | 17 => 1 | 18 => 2 | 19 => 3 | n => n⟩
theorem Tryz.laysM171 : Go.Proofs.LaysM.n171 Tryz.prog Tryz.laysM171_ren := {
  mixed := by kernel_rfl
  f129 := Tryz.func174.trans (congrArg some (by kernel_rfl))
  f171 := Tryz.func143.trans (congrArg some (by kernel_rfl))
  f243 := Tryz.func164.trans (congrArg some (by kernel_rfl))
  f246 := Tryz.func168.trans (congrArg some (by kernel_rfl))
  f283 := Tryz.func169.trans (congrArg some (by kernel_rfl))
  f284 := Tryz.func170.trans (congrArg some (by kernel_rfl))
  f285 := Tryz.func171.trans (congrArg some (by kernel_rfl))
  f286 := Tryz.func172.trans (congrArg some (by kernel_rfl))
  f317 := Tryz.func173.trans (congrArg some (by kernel_rfl))
  f318 := Tryz.func175.trans (congrArg some (by kernel_rfl))
  f319 := Tryz.func176.trans (congrArg some (by kernel_rfl))
  f320 := Tryz.func177.trans (congrArg some (by kernel_rfl))
  f337 := Tryz.func178.trans (congrArg some (by kernel_rfl))
  f338 := Tryz.func179.trans (congrArg some (by kernel_rfl))
  t0 := Tryz.underlying0
  a0 := Tryz.isAgg0
  z0 := Tryz.sizeOf0
  v0 := Tryz.zeroValue0
  t2 := Tryz.underlying2
  a2 := Tryz.isAgg2
  z2 := Tryz.sizeOf2
  v2 := Tryz.zeroValue2
  t3 := Tryz.underlying3
  a3 := Tryz.isAgg3
  z3 := Tryz.sizeOf3
  v3 := Tryz.zeroValue3
  t4 := Tryz.underlying4
  a4 := Tryz.isAgg4
  z4 := Tryz.sizeOf4
  v4 := Tryz.zeroValue4
  t5 := Tryz.underlying5
  a5 := Tryz.isAgg5
  z5 := Tryz.sizeOf5
  v5 := Tryz.zeroValue5
  t9 := Tryz.underlying9
  a9 := Tryz.isAgg9
  z9 := Tryz.sizeOf9
  v9 := Tryz.zeroValue9
  t20 := Tryz.underlying20
  a20 := Tryz.isAgg20
  z20 := Tryz.sizeOf20
  v20 := Tryz.zeroValue20
  t37 := Tryz.underlying28
  a37 := Tryz.isAgg28
  z37 := Tryz.sizeOf28
  v37 := Tryz.zeroValue28
  t46 := Tryz.underlying138
  a46 := Tryz.isAgg138
  z46 := Tryz.sizeOf138
  v46 := Tryz.zeroValue138
  t51 := Tryz.underlying22
  a51 := Tryz.isAgg22
  z51 := Tryz.sizeOf22
  v51 := Tryz.zeroValue22
  t53 := Tryz.underlying140
  a53 := Tryz.isAgg140
  z53 := Tryz.sizeOf140
  v53 := Tryz.zeroValue140
  t171 := Tryz.underlying256
  a171 := Tryz.isAgg256
  z171 := Tryz.sizeOf256
  v171 := Tryz.zeroValue256
  t173 := Tryz.underlying259
  a173 := Tryz.isAgg259
  z173 := Tryz.sizeOf259
  v173 := Tryz.zeroValue259
  t212 := Tryz.underlying263
  a212 := Tryz.isAgg263
  z212 := Tryz.sizeOf263
  v212 := Tryz.zeroValue263
  t213 := Tryz.underlying264
  a213 := Tryz.isAgg264
  z213 := Tryz.sizeOf264
  t232 := Tryz.underlying268
  a232 := Tryz.isAgg268
  z232 := Tryz.sizeOf268
  v232 := Tryz.zeroValue268
  t233 := Tryz.underlying269
  a233 := Tryz.isAgg269
  z233 := Tryz.sizeOf269
  v233 := Tryz.zeroValue269
  g17 := by kernel_rfl
  g18 := by kernel_rfl
  g19 := by kernel_rfl
  i0 := by kernel_rfl
  i2 := by kernel_rfl
  i3 := by kernel_rfl
  i4 := by kernel_rfl
  i5 := by kernel_rfl
  i9 := by kernel_rfl
  i20 := by kernel_rfl
  i37 := by kernel_rfl
  i46 := by kernel_rfl
  i51 := by kernel_rfl
  i53 := by kernel_rfl
  i171 := by kernel_rfl
  i173 := by kernel_rfl
  i212 := by kernel_rfl
  i232 := by kernel_rfl
  i233 := by kernel_rfl
  m17 := by kernel_rfl
  m18 := by kernel_rfl
  m19 := by kernel_rfl }
open Go.RowKit Go.Sort Go.Lib in
/-- strconv.Itoa: "Itoa is equivalent to FormatInt(int64(i), 10).": i's DECIMAL NUMERAL ('Lib.itoa': a '-' where i is negative, then the digits), FOR EVERY int. The world behind the call: the world before it, new blocks behind the heap (the library's 'var a [24]byte'), draws. (LAID: no walk: one application.) -/
theorem Tryz.strconv_Itoa (n : Int) (h0 : -9223372036854775808 ≤ n) (h1 : n ≤ 9223372036854775807) (w : World) (htab : Lib.TabIs Tryz.prog w "internal/strconv.uint64pow10" .u64 Lib.pow10Tab) :
    Calls Tryz.prog 143 #[.int .i64 n] w fun e w' => e = .returned (.string ⟨(Lib.itoa n).toArray⟩) ∧ ∃ k os, w' = grow (w.drewN k) os := Any.strconv_Itoa Tryz.laysM171 n h0 h1 w htab
end Go.Proofs

/- What mark of lagoonref00 answers; nothing that was there before is changed. -/
namespace Go.Proofs.YtehgibgeghhloaaGreatDoor
open Go.RowKit
set_option maxRecDepth 8000

/-- The table that strconv's numerals read. -/
abbrev Tab (w : World) : Prop := Lib.TabIs Tryz.prog w "internal/strconv.uint64pow10" .u64 Lib.pow10Tab

theorem tab_global : Tryz.prog.globalNamed "internal/strconv.uint64pow10" = some 1 := by kernel_rfl

theorem Tab.below {B : Nat} {w w' : World} (h : Tab w) (hb : Below B w w') (hB : 1 < B) : Tab w' := var?_below hb tab_global hB h

theorem decDigits_len (u : Nat) : (Lib.decDigits u).length ≤ u / 10 + 2 := by
  induction u using Nat.strongRecOn with
  | _ u ih =>
    rw [Lib.decDigits]
    by_cases h : u < 10
    · rw [dif_pos h]; simp
    · rw [dif_neg h]
      have := ih (u / 10) (by omega)
      simp
      omega

theorem itoa_len (n : Int) (h0 : -9223372036854775808 ≤ n) (h1 : n ≤ 9223372036854775807) : (⟨(Lib.itoa n).toArray⟩ : ByteArray).size ≤ 9000000000000000000 := by
  show (Lib.itoa n).toArray.size ≤ _
  rw [List.size_toArray]
  unfold Lib.itoa
  by_cases h : n < 0
  · rw [if_pos h]
    have := decDigits_len n.natAbs
    simp
    omega
  · rw [if_neg h]
    have := decDigits_len n.toNat
    omega

/-- The text that mark makes of a number. -/
def markS (n : Int) : ByteArray := (⟨#[33]⟩ : ByteArray) ++ (⟨(Lib.itoa n).toArray⟩ : ByteArray)

set_option maxHeartbeats 400000 in
theorem mark_is (n : Int) (w : World) (h0 : -9223372036854775808 ≤ n) (h1 : n ≤ 9223372036854775807) (ht : Tab w) :
    Calls Tryz.prog 97 #[.int .i64 n] w fun e w' => e = .returned (.string (markS n)) ∧ Below w.heap.size w w' := by
  have HT : Hid (Tab w) := ht
  clear ht
  have hs := fun w => run_string_add_sum (P := Tryz.prog) w (⟨#[33]⟩ : ByteArray) (⟨(Lib.itoa n).toArray⟩ : ByteArray) (by have := itoa_len n h0 h1; show 1 + _ ≤ _; omega)
  go_enter Tryz.func97, Tryz.ntmps97
  go_wp2_with fail
  refine (Tryz.strconv_Itoa n h0 h1 _ HT.out).mono ?_
  rintro e w1 ⟨rfl, k, os, hw1⟩
  have HB : Hid (Below w.heap.size w w1) := by rw [hw1]; exact ⟨rfl, rfl, rfl, by simp [Sort.grow], fun i hi => by show (w.heap ++ os)[i]? = _; rw [Array.getElem?_append_left hi]⟩
  clear hw1
  go_wp2
  go_ret
  exact ⟨rfl, HB.out⟩


theorem markS_len (n : Int) (h0 : -2001000 ≤ n) (h1 : n ≤ 0) : (markS n).size ≤ 210000 := by
  unfold markS
  rw [ByteArray.size_append]
  show 1 + (Lib.itoa n).toArray.size ≤ _
  rw [List.size_toArray]
  unfold Lib.itoa
  by_cases h : n < 0
  · rw [if_pos h]
    have := decDigits_len n.natAbs
    simp
    omega
  · rw [if_neg h]
    have := decDigits_len n.toNat
    omega

end Go.Proofs.YtehgibgeghhloaaGreatDoor

/- What the Writer's calls of package pack do: each puts the bytes of its value behind those that the Writer has. -/
namespace Go.Proofs.YtehgibgeghhloaaGreatDoor
open Go.RowKit
set_option maxRecDepth 8000

theorem Tryz.infoByte' : (Tryz.prog.info? 5).map (fun i => (i.zero, i.size, i.bytes)) = some (some (.int .u8 0), 1, 1) := by kernel_rfl

/-- What a call that puts bytes leaves: the Writer at g with the bytes xs; all else but its row is as it was. -/
def Puts (w : World) (g : Nat) (v : Value) (xs : List Int) (w' : World) : Prop :=
  ∃ v', IsW w' g v' xs ∧ NewRow w v v' ∧ Kept w w' (fun k => k = g ∨ v.ownBlock = some k)

/-- Behind an append to the field and the store of what it answers. -/
theorem puts_mk {w w1 : World} {g : Nat} {v v' : Value} {xs ys : List Int} (h : IsW w g v xs) (hown : Owns w1 0 v' (xs ++ ys)) (hgrow : w.grownBy w1 v.ownBlock) (hnew : NewRow w v v') :
    Puts w g v (xs ++ ys) (w1.setCell ⟨g, 0, none⟩ v') := by
  have hk : Kept w w1 (fun k => k = g ∨ v.ownBlock = some k) := (Kept.refl w _).grown hgrow (fun k _ e => .inr e)
  have hg1 : w1.heap[g]? = some (.cells #[v] 77 (0, 0)) := by
    rw [hgrow.block g (lt_of_block h.1) (fun e => h.apart e.symm)]; exact h.1
  have hap : v'.ownBlock ≠ some g := by
    rcases hnew with e | ⟨k, e, hk⟩
    · rw [e]; exact h.apart
    · rw [e]; intro e2; simp at e2; subst e2; have := lt_of_block h.1; omega
  exact ⟨v', ⟨one_setCell hg1, ownsRow_setCell_other hown hap _⟩, hnew, hk.setCell _ _ (fun _ => .inl rfl)⟩

theorem Puts.next {w w1 w2 : World} {g : Nat} {v v1 : Value} {ys : List Int} (hnew : NewRow w v v1) (hk : Kept w w1 (fun k => k = g ∨ v.ownBlock = some k)) (h2 : Puts w1 g v1 ys w2) : Puts w g v ys w2 := by
  obtain ⟨v2, k1, k2, k3⟩ := h2
  refine ⟨v2, k1, ?_, hk.trans k3 ?_⟩
  · rcases k2 with e | ⟨b, e, hb⟩
    · rcases hnew with e' | ⟨b, e', hb⟩
      · exact .inl (e.trans e')
      · exact .inr ⟨b, e.trans e', hb⟩
    · exact .inr ⟨b, e, by have := hk.size; omega⟩
  · intro b hb hs
    rcases hs with hs | hs
    · exact .inl hs
    · rcases hnew with e' | ⟨b', e', hb'⟩
      · exact .inr (by rw [← e']; exact hs)
      · rw [e'] at hs; simp at hs; omega

set_option maxHeartbeats 400000 in
theorem add_any (g : Nat) (v u : Value) (xs ys : List Int) (w : World) (h : IsW w g v xs) (hu : Sees w u ys) (hb : xs.length + ys.length ≤ 140737488355328) :
    Calls Tryz.prog 73 #[.pointer (some ⟨g, 0, none⟩), u] w fun e w' => e = .returned (.tuple #[]) ∧ Puts w g v (xs ++ ys) w' := by
  obtain ⟨i0, hi, hz0, hz1, hz2⟩ := info_parts Tryz.infoByte'
  have hc := cell_of_one h.1
  have hf := free_of_one h.1
  have H : Hid (IsW w g v xs) := h
  have HU : Hid (Sees w u ys) := hu
  clear h hu
  go_enter Tryz.func73, Tryz.ntmps73
  go_wp2_with (at_builtin; refine wpList_app _ rfl _ _ 28 rfl i0 Tryz.underlying28 hi hz0 hz1 hz2 v u xs ys rfl rfl H.out.2 HU.out hb ?_)
  intro v' w1 hown hgrow hnew
  have R := puts_mk H.out hown hgrow hnew
  have hc1 : w1.cell? ⟨g, 0, none⟩ = some v := hgrow.cell hc (fun e => H.out.apart e.symm)
  have hf1 : w1.frozen? ⟨g, 0, none⟩ = false := by
    rw [World.frozen?_of_block (hgrow.block g (lt_of_block H.out.1) (fun e => H.out.apart e.symm))]; exact hf
  have HR : Hid (Puts w g v (xs ++ ys) (w1.setCell ⟨g, 0, none⟩ v')) := R
  obtain ⟨ao', n', c', hv'⟩ := owns_shape hown
  clear R hown hgrow hnew hc hf
  subst hv'
  go_wp2
  go_end0
  exact ⟨rfl, HR.out⟩

/-- A list of bytes that has just been laid in a new block. -/
theorem sees_new {w : World} (cs : Array Value) (ys : List Int) (hl : ys.length ≤ 4096) (h : cs.toList = ys.map (Value.int .u8)) : Sees (w.alloc (.cells cs 5)) (.slice (some ⟨w.heap.size, 0, none⟩) ys.length ys.length) ys := by
  refine ⟨_, _, rfl, Nat.le_refl _, by unfold maxLen; omega, fun e => by simp at e, .inr ⟨_, _, rfl, fun i hi => ?_⟩⟩
  rw [Nat.zero_add, cell_of_row _ w.heap.size i cs 5 (0, 0) (heap_alloc_new w _), ← Array.getElem?_toList, h]
  simp [hi, List.getD_eq_getElem?_getD]

theorem IsW.alloc {w : World} {g : Nat} {v : Value} {xs : List Int} (h : IsW w g v xs) (o : Obj) : IsW (w.alloc o) g v xs := h.kept ((Kept.refl w (fun _ => False)).alloc o) (fun h => h) (fun _ _ h => h)

theorem Puts.of_alloc {w w' : World} {o : Obj} {g : Nat} {v : Value} {xs : List Int} (h : Puts (w.alloc o) g v xs w') : Puts w g v xs w' := by
  obtain ⟨v', h1, h2, h3⟩ := h
  refine ⟨v', h1, ?_, ((Kept.refl w _).alloc o).trans h3 (fun _ _ h => h)⟩
  rcases h2 with e | ⟨k, e, hk⟩
  · exact .inl e
  · exact .inr ⟨k, e, by simp at hk; omega⟩

/-- The bytes of a number from 0 on, the highest first. -/
def be4 (n : Int) : List Int := [n / 16777216, n / 65536 % 256, n / 256 % 256, n % 256]

set_option maxHeartbeats 400000 in
theorem wUint32_any (g : Nat) (v : Value) (xs : List Int) (n : Int) (w : World) (h : IsW w g v xs) (hn : 0 ≤ n) (hn' : n < 4294967296) (hb : xs.length + 4 ≤ 140737488355328) :
    Calls Tryz.prog 20 #[.pointer (some ⟨g, 0, none⟩), .int .u32 n] w fun e w' => e = .returned (.tuple #[]) ∧ Puts w g v (xs ++ be4 n) w' := by
  have H : Hid (IsW w g v xs) := h
  clear h
  go_enter Tryz.func20, Tryz.ntmps20
  go_wp2_with fail
  refine (add_any g v _ xs (be4 n) _ (H.out.alloc _) (sees_new _ (be4 n) (by simp [be4]) (by simp [be4])) (by simp [be4]; omega)).mono ?_
  rintro e w1 ⟨rfl, hp⟩
  have HP : Hid (Puts w g v (xs ++ be4 n) w1) := hp.of_alloc
  clear hp
  go_wp2
  go_end0
  exact ⟨rfl, HP.out⟩

/-- An int32's number in its four bytes: below 0 2^32 more. -/
def up32 (n : Int) : Int := n % 4294967296

set_option maxHeartbeats 400000 in
theorem wInt32_any (g : Nat) (v : Value) (xs : List Int) (n : Int) (w : World) (h : IsW w g v xs) (hb : xs.length + 4 ≤ 140737488355328) :
    Calls Tryz.prog 80 #[.pointer (some ⟨g, 0, none⟩), .int .i32 n] w fun e w' => e = .returned (.tuple #[]) ∧ Puts w g v (xs ++ be4 (up32 n)) w' := by
  have H : Hid (IsW w g v xs) := h
  clear h
  go_enter Tryz.func80, Tryz.ntmps80
  go_wp2_with fail
  refine (wUint32_any g v xs (up32 n) _ H.out (by unfold up32; omega) (by unfold up32; omega) hb).mono ?_
  rintro e w1 ⟨rfl, hp⟩
  have HP : Hid (Puts w g v (xs ++ be4 (up32 n)) w1) := hp
  clear hp
  go_wp2
  go_end0
  exact ⟨rfl, HP.out⟩

/-- bytes.Clone: nil of nil; else the bytes in a new row. -/
theorem clone_any (u : Value) (ys : List Int) (w : World) (hu : Sees w u ys) (hb : ys.length ≤ 140737488355328) :
    Calls Tryz.prog 86 #[u] w fun e w' => ∃ v', e = .returned v' ∧ Owns w' w.heap.size v' ys ∧ Below w.heap.size w w' := by
  obtain ⟨i0, hi, hz0, hz1, hz2⟩ := info_parts Tryz.infoByte'
  have HU : Hid (Sees w u ys) := hu
  obtain ⟨ao, cap, rfl, h1, h2, h0, h3⟩ := hu
  cases ao with
  | none =>
    have hy : ys = [] := List.eq_nil_of_length_eq_zero (by have := h0 rfl; omega)
    subst hy
    obtain rfl := h0 rfl
    clear HU h3
    have hnil : ∀ w, (binOp .eql 28 (.slice none 0 0) (.slice none 0 0)).run Tryz.prog w = .ok (.bool true) w := fun w => Lib.run_eql_slice_nil w 28 5 none 0 0 0 0 Tryz.underlying28
    go_enter Tryz.func86, Tryz.ntmps86
    go_wp2
    go_ret
    exact ⟨_, rfl, World.ownsRow_nil _ _ _ _, Below.refl _ _⟩
  | some ad =>
    clear h3 h0
    have hnil : ∀ w, (binOp .eql 28 (.slice (some ad) ys.length cap) (.slice none 0 0)).run Tryz.prog w = .ok (.bool false) w := fun w => Lib.run_eql_slice_nil w 28 5 (some ad) ys.length cap 0 0 Tryz.underlying28
    have hown0 : Owns (w.alloc (.cells #[] 5)) 0 (.slice (some ⟨w.heap.size, 0, none⟩) 0 0) [] := World.ownsRow_lit w #[] 0 (Nat.zero_le _) (Nat.zero_le _) rfl
    have HO : Hid (Owns (w.alloc (.cells #[] 5)) 0 (.slice (some ⟨w.heap.size, 0, none⟩) 0 0) []) := hown0
    clear hown0
    go_enter Tryz.func86, Tryz.ntmps86
    go_wp2_with (at_builtin; refine wpList_app _ rfl (.tmp 5) (.tmp 6) 28 rfl i0 Tryz.underlying28 hi hz0 hz1 hz2 _ _ [] ys rfl rfl HO.out (HU.out.below ((Below.refl w.heap.size _).alloc (Nat.le_refl _) _) (Nat.le_refl _)) (by simpa using hb) ?_)
    intro v' w1 hown hgrow hnew
    have hbel : Below w.heap.size w w1 := ((Below.refl w.heap.size w).alloc (Nat.le_refl _) _).grown hgrow (by simp) (fun k hk => by simp [Value.ownBlock] at hk; omega)
    have hown' : Owns w1 w.heap.size v' ys := owns_base hown (fun k hk => by
      rcases hnew with e | ⟨j, e, hj⟩
      · rw [e] at hk; simp [Value.ownBlock] at hk; omega
      · rw [e] at hk; simp at hk hj; omega)
    have HR : Hid (Owns w1 w.heap.size v' ys) := hown'
    clear hown hgrow hnew HO HU hown'
    go_wp2
    go_ret
    exact ⟨_, rfl, HR.out, hbel⟩

set_option maxHeartbeats 400000 in
theorem wBytes_any (g : Nat) (v : Value) (xs : List Int) (w : World) (h : IsW w g v xs) (hb : xs.length ≤ 140737488355328) :
    Calls Tryz.prog 25 #[.pointer (some ⟨g, 0, none⟩)] w fun e w' => ∃ v', e = .returned v' ∧ Owns w' w.heap.size v' xs ∧ Below w.heap.size w w' := by
  have hc := cell_of_one h.1
  have H : Hid (IsW w g v xs) := h
  clear h
  go_enter Tryz.func25, Tryz.ntmps25
  go_wp2_with fail
  refine (clone_any v xs _ (Sees.own H.out.2) hb).mono ?_
  rintro e w1 ⟨v', rfl, hp⟩
  have HP : Hid (Owns w1 w.heap.size v' xs ∧ Below w.heap.size w w1) := hp
  clear hp
  go_wp2
  go_ret
  exact ⟨_, rfl, HP.out⟩

end Go.Proofs.YtehgibgeghhloaaGreatDoor
