/-
  DERIVED: THE SHELF's CONTRACTS AT THIS DUMP, IN PLAIN WORDS (tools/lay-plain.mjs out of 'TryzShelf.lean', which tools/lay-shelf.mjs wrote): THE SAME DECLARATIONS UNDER THE SAME NAMES: 'import', 'namespace', 'open', 'def', 'theorem' AND NOTHING ELSE: no command of the shelf's: FOR A HAND-IN. Each laying: the table of numbers ('.._ren') and one theorem, a field a fact of the dump's own or the kernel's comparison; each contract: ONE APPLICATION.
-/
import Derived.Shelf.Strconv.Itoa0
import Derived.Shelf.Strconv.Itoa1
import Derived.Shelf.LaysM
import Derived.Shelf.Strconv.Itoa2
import Derived.Shelf.Strconv.Itoa3
import Derived.Ground.SlbCloneProg
import Derived.Shelf.Bytes.SlClone
import Derived.Test.YtblgipjipeaemaaGreatDoorProg
import Derived.Test.YtblgipjipeaemaaGreatDoorMemJ
import Derived.Test.YtblgipjipeaemaaGreatDoorApartJ
import Derived.Test.YtblgipjipeaemaaGreatDoorReaderMoreJ
import Derived.Test.YtblgipjipeaemaaGreatDoorWideJ
namespace Go.Proofs
open Go.Shelf
def Tryz.laysM171_ren : Go.Shelf.Ren := ⟨fun | 171 => 108 | 243 => 109 | 246 => 110 | 283 => 111 | 284 => 112 | 285 => 113 | 286 => 114 | 129 => 116 | 317 => 115 | 318 => 117 | 319 => 118 | 320 => 119 | 337 => 120 | 338 => 121 | n => n, fun | 3 => 3 | 9 => 9 | 2 => 2 | 4 => 4 | 171 => 213 | 0 => 0 | 53 => 86 | 37 => 22 | 5 => 5 | 173 => 216 | 212 => 220 | 51 => 40 | 20 => 20 | 213 => 221 | 46 => 88 | 232 => 225 | 233 => 226 | n => n, fun | 17 => 1 | 18 => 2 | 19 => 3 | n => n⟩
theorem Tryz.laysM171 : Go.Proofs.LaysM.n171 Tryz.prog Tryz.laysM171_ren := {
  mixed := by kernel_rfl
  f129 := Tryz.func116.trans (congrArg some (by kernel_rfl))
  f171 := Tryz.func108.trans (congrArg some (by kernel_rfl))
  f243 := Tryz.func109.trans (congrArg some (by kernel_rfl))
  f246 := Tryz.func110.trans (congrArg some (by kernel_rfl))
  f283 := Tryz.func111.trans (congrArg some (by kernel_rfl))
  f284 := Tryz.func112.trans (congrArg some (by kernel_rfl))
  f285 := Tryz.func113.trans (congrArg some (by kernel_rfl))
  f286 := Tryz.func114.trans (congrArg some (by kernel_rfl))
  f317 := Tryz.func115.trans (congrArg some (by kernel_rfl))
  f318 := Tryz.func117.trans (congrArg some (by kernel_rfl))
  f319 := Tryz.func118.trans (congrArg some (by kernel_rfl))
  f320 := Tryz.func119.trans (congrArg some (by kernel_rfl))
  f337 := Tryz.func120.trans (congrArg some (by kernel_rfl))
  f338 := Tryz.func121.trans (congrArg some (by kernel_rfl))
  t0 := Tryz.underlying0
  a0 := Tryz.isAgg0
  z0 := Tryz.sizeOf0
  v0 := Tryz.zeroValue0
  t2 := Tryz.underlying2
  a2 := Tryz.isAgg2
  z2 := Tryz.sizeOf2
  v2 := Tryz.zeroValue2
  t3 := Tryz.underlying3
  a3 := Tryz.isAgg3
  z3 := Tryz.sizeOf3
  v3 := Tryz.zeroValue3
  t4 := Tryz.underlying4
  a4 := Tryz.isAgg4
  z4 := Tryz.sizeOf4
  v4 := Tryz.zeroValue4
  t5 := Tryz.underlying5
  a5 := Tryz.isAgg5
  z5 := Tryz.sizeOf5
  v5 := Tryz.zeroValue5
  t9 := Tryz.underlying9
  a9 := Tryz.isAgg9
  z9 := Tryz.sizeOf9
  v9 := Tryz.zeroValue9
  t20 := Tryz.underlying20
  a20 := Tryz.isAgg20
  z20 := Tryz.sizeOf20
  v20 := Tryz.zeroValue20
  t37 := Tryz.underlying22
  a37 := Tryz.isAgg22
  z37 := Tryz.sizeOf22
  v37 := Tryz.zeroValue22
  t46 := Tryz.underlying88
  a46 := Tryz.isAgg88
  z46 := Tryz.sizeOf88
  v46 := Tryz.zeroValue88
  t51 := Tryz.underlying40
  a51 := Tryz.isAgg40
  z51 := Tryz.sizeOf40
  v51 := Tryz.zeroValue40
  t53 := Tryz.underlying86
  a53 := Tryz.isAgg86
  z53 := Tryz.sizeOf86
  v53 := Tryz.zeroValue86
  t171 := Tryz.underlying213
  a171 := Tryz.isAgg213
  z171 := Tryz.sizeOf213
  v171 := Tryz.zeroValue213
  t173 := Tryz.underlying216
  a173 := Tryz.isAgg216
  z173 := Tryz.sizeOf216
  v173 := Tryz.zeroValue216
  t212 := Tryz.underlying220
  a212 := Tryz.isAgg220
  z212 := Tryz.sizeOf220
  v212 := Tryz.zeroValue220
  t213 := Tryz.underlying221
  a213 := Tryz.isAgg221
  z213 := Tryz.sizeOf221
  t232 := Tryz.underlying225
  a232 := Tryz.isAgg225
  z232 := Tryz.sizeOf225
  v232 := Tryz.zeroValue225
  t233 := Tryz.underlying226
  a233 := Tryz.isAgg226
  z233 := Tryz.sizeOf226
  v233 := Tryz.zeroValue226
  g17 := by kernel_rfl
  g18 := by kernel_rfl
  g19 := by kernel_rfl
  i0 := by kernel_rfl
  i2 := by kernel_rfl
  i3 := by kernel_rfl
  i4 := by kernel_rfl
  i5 := by kernel_rfl
  i9 := by kernel_rfl
  i20 := by kernel_rfl
  i37 := by kernel_rfl
  i46 := by kernel_rfl
  i51 := by kernel_rfl
  i53 := by kernel_rfl
  i171 := by kernel_rfl
  i173 := by kernel_rfl
  i212 := by kernel_rfl
  i232 := by kernel_rfl
  i233 := by kernel_rfl
  m17 := by kernel_rfl
  m18 := by kernel_rfl
  m19 := by kernel_rfl }
open Go.RowKit Go.Sort Go.Lib in
/-- strconv.Itoa: "Itoa is equivalent to FormatInt(int64(i), 10).": i's DECIMAL NUMERAL ('Lib.itoa': a '-' where i is negative, then the digits), FOR EVERY int. The world behind the call: the world before it, new blocks behind the heap (the library's 'var a [24]byte'), draws. (LAID: no walk: one application.) -/
theorem Tryz.strconv_Itoa (n : Int) (h0 : -9223372036854775808 ≤ n) (h1 : n ≤ 9223372036854775807) (w : World) (htab : Lib.TabIs Tryz.prog w "internal/strconv.uint64pow10" .u64 Lib.pow10Tab) :
    Calls Tryz.prog 108 #[.int .i64 n] w fun e w' => e = .returned (.string ⟨(Lib.itoa n).toArray⟩) ∧ ∃ k os, w' = grow (w.drewN k) os := Any.strconv_Itoa Tryz.laysM171 n h0 h1 w htab
end Go.Proofs

/- What mark of lagoonref00 answers; nothing that was there before is changed. -/
namespace Go.Proofs.YtblgipjipeaemaaGreatDoor
open Go.RowKit
set_option maxRecDepth 8000

/-- The table that strconv's numerals read. -/
abbrev Tab (w : World) : Prop := Lib.TabIs Tryz.prog w "internal/strconv.uint64pow10" .u64 Lib.pow10Tab

theorem tab_global : Tryz.prog.globalNamed "internal/strconv.uint64pow10" = some 1 := by kernel_rfl

theorem Tab.below {B : Nat} {w w' : World} (h : Tab w) (hb : Below B w w') (hB : 1 < B) : Tab w' := var?_below hb tab_global hB h

theorem decDigits_len (u : Nat) : (Lib.decDigits u).length ≤ u / 10 + 2 := by
  induction u using Nat.strongRecOn with
  | _ u ih =>
    rw [Lib.decDigits]
    by_cases h : u < 10
    · rw [dif_pos h]; simp
    · rw [dif_neg h]
      have := ih (u / 10) (by omega)
      simp
      omega

theorem itoa_len (n : Int) (h0 : -9223372036854775808 ≤ n) (h1 : n ≤ 9223372036854775807) : (⟨(Lib.itoa n).toArray⟩ : ByteArray).size ≤ 9000000000000000000 := by
  show (Lib.itoa n).toArray.size ≤ _
  rw [List.size_toArray]
  unfold Lib.itoa
  by_cases h : n < 0
  · rw [if_pos h]
    have := decDigits_len n.natAbs
    simp
    omega
  · rw [if_neg h]
    have := decDigits_len n.toNat
    omega

/-- The text that mark makes of a number. -/
def markS (n : Int) : ByteArray := (⟨#[33]⟩ : ByteArray) ++ (⟨(Lib.itoa n).toArray⟩ : ByteArray)

set_option maxHeartbeats 400000 in
theorem mark_is (n : Int) (w : World) (h0 : -9223372036854775808 ≤ n) (h1 : n ≤ 9223372036854775807) (ht : Tab w) :
    Calls Tryz.prog 87 #[.int .i64 n] w fun e w' => e = .returned (.string (markS n)) ∧ Below w.heap.size w w' := by
  have HT : Hid (Tab w) := ht
  clear ht
  have hs := fun w => run_string_add_sum (P := Tryz.prog) w (⟨#[33]⟩ : ByteArray) (⟨(Lib.itoa n).toArray⟩ : ByteArray) (by have := itoa_len n h0 h1; show 1 + _ ≤ _; omega)
  go_enter Tryz.func87, Tryz.ntmps87
  go_wp2_with fail
  refine (Tryz.strconv_Itoa n h0 h1 _ HT.out).mono ?_
  rintro e w1 ⟨rfl, k, os, hw1⟩
  have HB : Hid (Below w.heap.size w w1) := by rw [hw1]; exact ⟨rfl, rfl, rfl, by simp [Sort.grow], fun i hi => by show (w.heap ++ os)[i]? = _; rw [Array.getElem?_append_left hi]⟩
  clear hw1
  go_wp2
  go_ret
  exact ⟨rfl, HB.out⟩


theorem markS_len (n : Int) (h0 : -2001000 ≤ n) (h1 : n ≤ 0) : (markS n).size ≤ 210000 := by
  unfold markS
  rw [ByteArray.size_append]
  show 1 + (Lib.itoa n).toArray.size ≤ _
  rw [List.size_toArray]
  unfold Lib.itoa
  by_cases h : n < 0
  · rw [if_pos h]
    have := decDigits_len n.natAbs
    simp
    omega
  · rw [if_neg h]
    have := decDigits_len n.toNat
    omega

end Go.Proofs.YtblgipjipeaemaaGreatDoor

/- Lists of texts of bytes that are marked: what a mark is in memory; no Go function is walked here. -/
namespace Go.Proofs.YtblgipjipeaemaaGreatDoor
open Go.RowKit
set_option maxRecDepth 8000

/-- A text of bytes in a row of bytes. -/
def SeesB (w : World) (u : Value) (s : ByteArray) : Prop := Sees w u (txt s) ∧ ∀ k, u.ownBlock = some k → ∃ cs fr, w.heap[k]? = some (.cells cs 5 fr)

theorem SeesB.kept {w w' : World} {u : Value} {s : ByteArray} (h : SeesB w u s) (hk : Kept w w' (fun _ => False)) : SeesB w' u s :=
  ⟨h.1.kept hk (fun _ _ h => h), fun k hu => by
    obtain ⟨cs, fr, hr⟩ := h.2 k hu
    exact ⟨cs, fr, hk.heap hr (fun h => h)⟩⟩

theorem SeesB.turned {w w' : World} {u : Value} {s : ByteArray} {S : Nat → Nat → Prop} {E : TypeId} (h : SeesB w u s) (ht : Turned w w' S) (hS : ∀ k x, S k x → ∃ cs fr, w.heap[k]? = some (.cells cs E fr)) (hE : E ≠ 5) : SeesB w' u s := by
  have hn : ∀ k, u.ownBlock = some k → ∀ x, ¬ S k x := by
    intro k hu x hs
    obtain ⟨cs, fr, hr⟩ := h.2 k hu
    obtain ⟨cs', fr', hr'⟩ := hS k x hs
    rw [hr] at hr'
    simp at hr'
    exact hE hr'.2.1.symm
  refine ⟨?_, fun k hu => ?_⟩
  · obtain ⟨ao, cap, rfl, h1, h2, h0, h3⟩ := h.1
    refine ⟨ao, cap, rfl, h1, h2, h0, ?_⟩
    rcases h3 with h3 | ⟨b, off, rfl, h3⟩
    · exact .inl h3
    · exact .inr ⟨b, off, rfl, fun i hi => ht.cell (h3 i hi) (hn b rfl _)⟩
  · obtain ⟨cs, fr, hr⟩ := h.2 k hu
    rw [ht.same k (lt_of_block hr) (hn k hu)]
    exact ⟨cs, fr, hr⟩

theorem SeesB.typed {w w' : World} {u : Value} {s : ByteArray} {E : TypeId} (h : SeesB w u s) (hk : Kept w w' (OfType w E)) (hE : E ≠ 5) : SeesB w' u s := by
  have hn : ∀ k, u.ownBlock = some k → ¬ OfType w E k := by
    rintro k hu ⟨cs', fr', hr'⟩
    obtain ⟨cs, fr, hr⟩ := h.2 k hu
    rw [hr] at hr'
    simp at hr'
    exact hE hr'.2.1.symm
  refine ⟨h.1.kept hk hn, fun k hu => ?_⟩
  obtain ⟨cs, fr, hr⟩ := h.2 k hu
  exact ⟨cs, fr, hk.heap hr (hn k hu)⟩

theorem seesB_text (w : World) (s : ByteArray) (hs : s.size ≤ maxLen) (mk : Nat × Nat) :
    SeesB (w.drew.alloc (.cells (bytesRow s (grownCap w s.size 0 5)) 5 mk)) (.slice (some ⟨w.heap.size, 0, none⟩) s.size (grownCap w s.size 0 5)) s :=
  ⟨sees_text w s hs mk, fun k hk => by
    simp [Value.ownBlock] at hk
    subst hk
    exact ⟨_, _, heap_alloc_new w.drew _⟩⟩

theorem str_txt' (s : ByteArray) : strOfNums (txt s) = s := by
  unfold strOfNums txt
  rw [List.map_map]
  have : ((fun n : Int => UInt8.ofNat n.toNat) ∘ fun b : UInt8 => (b.toNat : Int)) = id := by
    funext b
    simp
  rw [this]
  simp

theorem run_textB {w : World} {u : Value} {s : ByteArray} (h : SeesB w u s) : (convert 22 9 u).run Tryz.prog w = .ok (.string s) w := by
  have := run_text w u (txt s) h.1
  rw [str_txt'] at this
  exact this

end Go.Proofs.YtblgipjipeaemaaGreatDoor
