/- What mark and WideTexts of lagoonref00 do: some text; a list of texts with 64 more behind it in new memory; nothing that was there before is changed. -/
import Derived.Test.YtmjcpcpcngpdjabDoorShelf
import Derived.Test.YtmjcpcpcngpdjabDoorMem
namespace Go.Proofs.YtmjcpcpcngpdjabDoor
open Go.RowKit

/-- The table that strconv's numerals read. -/
abbrev Tab (w : World) : Prop := Lib.TabIs Tryd.prog w "internal/strconv.uint64pow10" .u64 Lib.pow10Tab

theorem tab_global : Tryd.prog.globalNamed "internal/strconv.uint64pow10" = some 0 := by kernel_rfl

theorem Tab.below {B : Nat} {w w' : World} (h : Tab w) (hb : Below B w w') (hB : 0 < B) : Tab w' := var?_below hb tab_global hB h

theorem decDigits_len (u : Nat) : (Lib.decDigits u).length ≤ u / 10 + 2 := by
  induction u using Nat.strongRecOn with
  | _ u ih =>
    rw [Lib.decDigits]
    by_cases h : u < 10
    · rw [dif_pos h]; simp
    · rw [dif_neg h]
      have := ih (u / 10) (by omega)
      simp
      omega

theorem itoa_len (n : Int) (h0 : -9223372036854775808 ≤ n) (h1 : n ≤ 9223372036854775807) : (⟨(Lib.itoa n).toArray⟩ : ByteArray).size ≤ 9000000000000000000 := by
  show (Lib.itoa n).toArray.size ≤ _
  rw [List.size_toArray]
  unfold Lib.itoa
  by_cases h : n < 0
  · rw [if_pos h]
    have := decDigits_len n.natAbs
    simp
    omega
  · rw [if_neg h]
    have := decDigits_len n.toNat
    omega

set_option maxHeartbeats 400000 in
theorem mark_any (n : Int) (w : World) (h0 : -9223372036854775808 ≤ n) (h1 : n ≤ 9223372036854775807) (ht : Tab w) :
    Calls Tryd.prog 20 #[.int .i64 n] w fun e w' => ∃ s : ByteArray, e = .returned (.string s) ∧ Below w.heap.size w w' := by
  have HT : Hid (Tab w) := ht
  clear ht
  have hs := fun w => run_string_add_sum (P := Tryd.prog) w (⟨#[33]⟩ : ByteArray) (⟨(Lib.itoa n).toArray⟩ : ByteArray) (by have := itoa_len n h0 h1; show 1 + _ ≤ _; omega)
  go_enter Tryd.func20, Tryd.ntmps20
  go_wp2_with fail
  refine (Tryd.strconv_Itoa n h0 h1 _ HT.out).mono ?_
  rintro e w1 ⟨rfl, k, os, hw1⟩
  have HB : Hid (Below w.heap.size w w1) := by rw [hw1]; exact ⟨rfl, rfl, rfl, by simp [Sort.grow], fun i hi => by show (w.heap ++ os)[i]? = _; rw [Array.getElem?_append_left hi]⟩
  clear hw1
  go_wp2
  go_ret
  exact ⟨_, rfl, HB.out⟩

/-- The slice value v leads to the texts ss. -/
def SeesS (w : World) (v : Value) (ss : List ByteArray) : Prop :=
  ∃ (ao : Option Addr) (cap : Nat), v = .slice ao ss.length cap ∧ ss.length ≤ cap ∧ cap ≤ maxLen ∧ (ss = [] ∨ ∃ b off, ao = some ⟨b, off, none⟩ ∧ ∀ i, i < ss.length → w.cell? ⟨b, off + i, none⟩ = some (.string (ss.getD i ByteArray.empty)))

theorem Tryd.infoText : (Tryd.prog.info? 9).map (fun i => (i.zero, i.size, i.bytes)) = some (some (.string ⟨#[]⟩), 1, 16) := by kernel_rfl

theorem SeesS.below {B : Nat} {w w' : World} {v : Value} {ss : List ByteArray} (h : SeesS w v ss) (hb : Below B w w') (hB : w.heap.size ≤ B) : SeesS w' v ss := by
  obtain ⟨ao, cap, rfl, h1, h2, h3⟩ := h
  refine ⟨ao, cap, rfl, h1, h2, ?_⟩
  rcases h3 with h3 | ⟨b, off, rfl, h3⟩
  · exact .inl h3
  · exact .inr ⟨b, off, rfl, fun i hi => cell_later (h3 i hi) hb hB⟩

theorem row_below {w w' : World} {g n cap : Nat} {e : TypeId} {cs : List Value} {B : Nat} (h : w.ownsRow g e 1 (.slice (some ⟨g, 0, none⟩) n cap) n cs) (hb : Below B w w') (hB : g < B) : w'.ownsRow g e 1 (.slice (some ⟨g, 0, none⟩) n cap) n cs := by
  refine ⟨h.1, ?_⟩
  rcases h.2 with ⟨h', _⟩ | ⟨g', c, cur, e', h1, h2, h3⟩
  · simp at h'
  · simp only [Value.slice.injEq, Option.some.injEq, Addr.mk.injEq, and_true, true_and] at e'
    obtain ⟨rfl, rfl⟩ := e'
    exact .inr ⟨g, cap, cur, rfl, h1, by rw [hb.block g hB]; exact h2, h3⟩

set_option maxHeartbeats 400000 in
theorem wideTexts_any (v : Value) (ss : List ByteArray) (w : World) (h : SeesS w v ss) (hreach : ss.length ≤ 4194304) (ht : Tab w) (hg0 : 0 < w.heap.size) :
    Calls Tryd.prog 6 #[v] w fun e w' => e = .returned (.slice (some ⟨w.heap.size, 0, none⟩) ss.length (ss.length + 64)) ∧ Below w.heap.size w w' := by
  have HT : Hid (Tab w ∧ 0 < w.heap.size) := ⟨ht, hg0⟩
  clear ht hg0
  obtain ⟨ao, cap, rfl, hlc, hcm, h3⟩ := h
  unfold maxLen at hcm
  have H3 : Hid _ := h3
  clear h3
  obtain ⟨i0, hi, hz0, hz1, hz2⟩ := info_parts Tryd.infoText
  go_enter Tryd.func6, Tryd.ntmps6
  go_wp2_with (at_make; refine wpList_make_full _ rfl _ _ 22 rfl w.heap.size 9 i0 (.string ⟨#[]⟩) 1 Tryd.underlying22 hi hz0 hz1 .i64 .i64 _ _ (ss.length + 64) rfl rfl (by omega) (by omega) (by rw [hz2]; omega) (by unfold maxLen; omega) (Nat.le_refl _) ?_)
  intro w0 hown0 hgrow0
  have hbel0 : Below w.heap.size w w0 := (Below.refl _ _).grown hgrow0 (Nat.le_refl _) (fun k hk => by simp at hk)
  have HO0 : Hid (∃ cs, w0.ownsRow w.heap.size 9 1 (.slice (some ⟨w.heap.size, 0, none⟩) (ss.length + 64) (ss.length + 64)) (ss.length + 64) cs) := ⟨_, hown0⟩
  clear hown0 hgrow0
  go_wp2
  go_loopw [4] (fun i wr => ∃ (k : Nat) (cs : List Value), k ≤ ss.length + 64 ∧ i = .int .i64 k ∧ wr.ownsRow w.heap.size 9 1 (.slice (some ⟨w.heap.size, 0, none⟩) (ss.length + 64) (ss.length + 64)) (ss.length + 64) cs ∧ Below w.heap.size w wr) (fun i _ => ss.length + 64 - (intOf i).toNat)
  case atStart => obtain ⟨cs, h⟩ := HO0.out; exact ⟨0, cs, Nat.zero_le _, rfl, h, hbel0⟩
  case round =>
    clear HO0 hbel0 w0
    obtain ⟨k, cs, hk, rfl, hown, hbel⟩ := hrel
    have HO : Hid (wr.ownsRow w.heap.size 9 1 (.slice (some ⟨w.heap.size, 0, none⟩) (ss.length + 64) (ss.length + 64)) (ss.length + 64) cs ∧ Below w.heap.size w wr) := ⟨hown, hbel⟩
    clear hown
    by_cases hlt : k < ss.length + 64
    · have hl : cs.length = ss.length + 64 := by have := HO.out.1.1; omega
      by_cases hlx : k < ss.length
      · obtain ⟨u, hu⟩ : ∃ u, wr.cell? ⟨w.heap.size, k, none⟩ = some u := ⟨cs[k]'(by omega), by rw [HO.out.1.cellAt k (by omega), List.getElem?_eq_getElem (by omega)]⟩
        have hfz := HO.out.1.frozenAt k
        rcases H3.out with h3 | ⟨b, off, rfl, h3⟩
        · subst h3; simp at hlx
        · have hc := cell_later (h3 k hlx) hbel (Nat.le_refl _)
          have HL : Hid (cs.length = ss.length + 64) := hl
          clear h3 hbel hl H3
          generalize ss.getD k ByteArray.empty = x at *
          go_wp2
          have R := HO.out.1.stored k (.string x)
          have R2 := HO.out.2.setCell (p := ⟨w.heap.size, k, none⟩) (Nat.le_refl _) (.string x)
          go_roundw
          case rel => exact ⟨k + 1, _, by omega, by go_num, R.1, R2⟩
          case measure => simp [intOf]; omega
      · have HL : Hid (cs.length = ss.length + 64) := hl
        clear hl
        have hgw : w.heap.size < wr.heap.size := (HO.out.1.lt w.heap.size rfl).2
        go_wp2_with fail
        refine (mark_any _ _ (by omega) (by omega) (HT.out.1.below HO.out.2 HT.out.2)).mono ?_
        rintro e w1 ⟨x, rfl, hb1⟩
        have hO1 := row_below HO.out.1 hb1 hgw
        have HO1 : Hid (w1.ownsRow w.heap.size 9 1 (.slice (some ⟨w.heap.size, 0, none⟩) (ss.length + 64) (ss.length + 64)) (ss.length + 64) cs ∧ Below w.heap.size w w1) := ⟨hO1, HO.out.2.trans (hb1.mono (by omega))⟩
        obtain ⟨u, hu⟩ : ∃ u, w1.cell? ⟨w.heap.size, k, none⟩ = some u := ⟨cs[k]'(by have := HL.out; omega), by rw [hO1.cellAt k (by omega), List.getElem?_eq_getElem (by have := HL.out; omega)]⟩
        have hfz := hO1.frozenAt k
        clear hb1 hO1 HO hbel
        go_wp2
        have R := HO1.out.1.stored k (.string x)
        have R2 := HO1.out.2.setCell (p := ⟨w.heap.size, k, none⟩) (Nat.le_refl _) (.string x)
        go_roundw
        case rel => exact ⟨k + 1, _, by omega, by go_num, R.1, R2⟩
        case measure => simp [intOf]; omega
    · go_wp2
      go_ret
      exact ⟨rfl, hbel⟩

end Go.Proofs.YtmjcpcpcngpdjabDoor
