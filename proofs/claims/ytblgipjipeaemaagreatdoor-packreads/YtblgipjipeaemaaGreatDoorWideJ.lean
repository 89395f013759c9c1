/- What the rest of the Writer's calls do: Bool, Int8, Float, Text and Buffer. -/
import Derived.Test.YtblgipjipeaemaaGreatDoorRawJ
import Derived.Test.YtblgipjipeaemaaGreatDoorDbl3J
import Derived.Laws.IdiomStrings
import Derived.Laws.Externs
import Derived.WalkLawsBesides
import Derived.Test.YtblgipjipeaemaaGreatDoorRefBits2J
namespace Go.Proofs.YtblgipjipeaemaaGreatDoor
open Go.RowKit
set_option maxRecDepth 8000

/-- A truth's byte. -/
def b2i (b : Bool) : Int := if b then 1 else 0

/-- A text's bytes as numbers. -/
def txt (s : ByteArray) : List Int := s.data.toList.map fun b => (b.toNat : Int)
theorem txt_len (s : ByteArray) : (txt s).length = s.size := by unfold txt; rw [List.length_map, Array.length_toList]; rfl
theorem txt_byts (s : ByteArray) : Byts (txt s) := by
  intro x hx
  simp [txt] at hx
  obtain ⟨b, _, rfl⟩ := hx
  have := b.toNat_lt
  omega

/-- What '[]byte(s)' makes leads to the text's bytes. -/
theorem sees_text (w : World) (s : ByteArray) (hs : s.size ≤ maxLen) (mk : Nat × Nat) :
    Sees (w.drew.alloc (.cells (bytesRow s (grownCap w s.size 0 5)) 5 mk)) (.slice (some ⟨w.heap.size, 0, none⟩) s.size (grownCap w s.size 0 5)) (txt s) := by
  refine ⟨_, _, by rw [txt_len], by rw [txt_len]; exact grownCap_ge _ _ _ _, grownCap_le_maxLen _ _ _ _ hs, fun e => by simp at e, .inr ⟨_, _, rfl, fun i hi => ?_⟩⟩
  rw [txt_len] at hi
  have hi' : i < s.data.size := hi
  rw [Nat.zero_add]
  have := World.cell?_alloc_mark w.drew (bytesRow s (grownCap w s.size 0 5)) 5 mk i
  rw [show w.drew.heap.size = w.heap.size from rfl] at this
  rw [this, bytesRow_at s _ i hi']
  simp only [txt, List.getD_eq_getElem?_getD, List.getElem?_map, Array.getElem?_toList, Array.getElem?_eq_getElem hi', Option.map_some, Option.getD_some]

theorem IsW.drew {w : World} {g : Nat} {v : Value} {xs : List Int} (h : IsW w g v xs) : IsW w.drew g v xs := h.kept ((Kept.refl w (fun _ => False)).drewN 1) (fun h => h) (fun _ _ h => h)

theorem Puts.of_drew {w w' : World} {g : Nat} {v : Value} {xs : List Int} (h : Puts w.drew g v xs w') : Puts w g v xs w' := by
  obtain ⟨v', h1, h2, h3⟩ := h
  exact ⟨v', h1, h2, ⟨h3.os, h3.tape, h3.output, h3.size, h3.block⟩⟩

end Go.Proofs.YtblgipjipeaemaaGreatDoor

/- What the rest of the document's own bytes are: Bool, Int8, Uint32, Float, Buffer and Text of lagoonref01; and what spoil of the statements does. -/
namespace Go.Proofs.YtblgipjipeaemaaGreatDoor
open Go.RowKit
set_option maxRecDepth 8000

theorem owns_new (w : World) (cs : Array Value) (ys : List Int) (hl : ys.length ≤ 4096) (h : cs.toList = ys.map (Value.int .u8)) : Owns (w.alloc (.cells cs 5)) w.heap.size (.slice (some ⟨w.heap.size, 0, none⟩) ys.length ys.length) ys := by
  have hs : cs.size = ys.length * 1 := by
    have := congrArg List.length h
    simp at this
    omega
  have := World.ownsRow_lit (base := w.heap.size) (e := 5) (size := 1) w cs ys.length (Nat.le_refl _) (by unfold maxLen; omega) hs
  rw [h] at this
  exact this

set_option maxHeartbeats 400000 in
/-- spoil of a list in a row of its own: the row alone is written. -/
theorem spoil_any (g : Nat) (zs : List Int) (n cap : Nat) (w : World) (hown : Owns w 0 (.slice (some ⟨g, 0, none⟩) zs.length cap) zs) (hn : n ≤ zs.length) (hm : zs.length ≤ 70000000000000) :
    Calls Tryz.prog 22 #[.slice (some ⟨g, 0, none⟩) n cap] w fun e w' => e = .returned (.tuple #[]) ∧ Kept w w' (· = g) := by
  have H0 : Hid (Owns w 0 (.slice (some ⟨g, 0, none⟩) zs.length cap) zs) := hown
  clear hown
  go_enter Tryz.func22, Tryz.ntmps22
  go_wp2
  go_loopw [2] (fun i wr => ∃ (k : Nat) (ys : List Int), k ≤ n ∧ i = .int .i64 k ∧ ys.length = zs.length ∧ Owns wr 0 (.slice (some ⟨g, 0, none⟩) ys.length cap) ys ∧ Kept w wr (· = g)) (fun i _ => n - (intOf i).toNat)
  case atStart => exact ⟨0, zs, Nat.zero_le _, rfl, rfl, H0.out, Kept.refl _ _⟩
  case round =>
    clear H0
    obtain ⟨k, ys, hk, rfl, hyl, hown, hkp⟩ := hrel
    have HO : Hid (ys.length = zs.length ∧ Owns wr 0 (.slice (some ⟨g, 0, none⟩) ys.length cap) ys ∧ Kept w wr (· = g)) := ⟨hyl, hown, hkp⟩
    clear hyl hown hkp
    by_cases hlt : k < n
    · have hc := owns_cell HO.out.2.1 k (by have := HO.out.1; omega)
      have hf := HO.out.2.1.frozenAt k
      go_wp2
      have R := (owns_set HO.out.2.1 k (200 + (k : Int) % 50)).1
      have R2 := HO.out.2.2.setCell ⟨g, k, none⟩ (.int .u8 (200 + (k : Int) % 50)) (fun _ => rfl)
      go_roundw
      case rel => exact ⟨k + 1, _, by omega, by go_num, by rw [List.length_set]; exact HO.out.1, R, R2⟩
      case measure => simp [intOf]; omega
    · go_wp2
      go_end0
      exact ⟨rfl, HO.out.2.2⟩
end Go.Proofs.YtblgipjipeaemaaGreatDoor

/- What WideBytes and SpareBytes of lagoonref00 answer: the bytes with 64 marks behind them in their spare room; whether these marks stand. -/
namespace Go.Proofs.YtblgipjipeaemaaGreatDoor
open Go.RowKit
set_option maxRecDepth 8000

/-- A round of WideBytes: the mark is laid. -/
theorem wide_rel1 {B k : Nat} {w wr : World} {xs zs : List Int} (hzl : zs.length = xs.length + 64) (hk : k < xs.length + 64) (x : Int) (hx : x = (wide xs).getD k 0)
    (hown : Owns wr B (.slice (some ⟨B, 0, none⟩) zs.length (xs.length + 64)) zs) (hpt : ∀ j, j < k → zs.getD j 0 = (wide xs).getD j 0) (hbel : Below B w wr) :
    ∃ zs' : List Int, zs'.length = xs.length + 64 ∧ Owns (wr.setCell ⟨B, k, none⟩ (.int .u8 x)) B (.slice (some ⟨B, 0, none⟩) zs'.length (xs.length + 64)) zs' ∧
      (∀ j, j < k + 1 → zs'.getD j 0 = (wide xs).getD j 0) ∧ Below B w (wr.setCell ⟨B, k, none⟩ (.int .u8 x)) := by
  refine ⟨zs.set k x, by simpa using hzl, (owns_set hown k x).1, fun j hj => ?_, hbel.setCell (Nat.le_refl _) _⟩
  rw [nth_set zs k j x (by omega)]
  by_cases h : j = k
  · rw [if_pos h, h, hx]
  · rw [if_neg h]; exact hpt j (by omega)

theorem wide_rel2 {B k : Nat} {w wr : World} {xs zs : List Int} (hzl : zs.length = xs.length + 64) (hk : k < xs.length + 64) (y x : Int) (hx : x = (wide xs).getD k 0)
    (hown : Owns wr B (.slice (some ⟨B, 0, none⟩) zs.length (xs.length + 64)) zs) (hpt : ∀ j, j < k → zs.getD j 0 = (wide xs).getD j 0) (hbel : Below B w wr) :
    ∃ zs' : List Int, zs'.length = xs.length + 64 ∧ Owns ((wr.setCell ⟨B, k, none⟩ (.int .u8 y)).setCell ⟨B, k, none⟩ (.int .u8 x)) B (.slice (some ⟨B, 0, none⟩) zs'.length (xs.length + 64)) zs' ∧
      (∀ j, j < k + 1 → zs'.getD j 0 = (wide xs).getD j 0) ∧ Below B w ((wr.setCell ⟨B, k, none⟩ (.int .u8 y)).setCell ⟨B, k, none⟩ (.int .u8 x)) := by
  refine wide_rel1 (zs := zs.set k y) (by simpa using hzl) hk x hx (owns_set hown k y).1 (fun j hj => ?_) (hbel.setCell (Nat.le_refl _) _)
  rw [nth_set zs k j y (by omega), if_neg (by omega)]; exact hpt j hj

set_option maxHeartbeats 400000 in
theorem wideBytes_any (v : Value) (xs : List Int) (w : World) (h : Sees w v xs) (hreach : xs.length ≤ 70000000000000) :
    Calls Tryz.prog 6 #[v] w fun e w' => e = .returned (.slice (some ⟨w.heap.size, 0, none⟩) xs.length (xs.length + 64)) ∧
      Owns w' w.heap.size (.slice (some ⟨w.heap.size, 0, none⟩) (wide xs).length (xs.length + 64)) (wide xs) ∧ Below w.heap.size w w' := by
  obtain ⟨ao, cap, rfl, hlc, hcm, _, h3⟩ := h
  unfold maxLen at hcm
  obtain ⟨i0, hi, hz0, hz1, hz2⟩ := info_parts Tryz.infoByte
  go_enter Tryz.func6, Tryz.ntmps6
  go_wp2_with (at_make; refine wpList_make_full _ rfl _ _ 22 rfl w.heap.size 5 i0 (.int .u8 0) 1 Tryz.underlying22 hi hz0 hz1 .i64 .i64 _ _ (xs.length + 64) rfl rfl (by omega) (by omega) (by rw [hz2]; omega) (by unfold maxLen; omega) (Nat.le_refl _) ?_)
  intro w0 hown0 hgrow0
  have hown1 := made_owns hown0
  have hbel0 : Below w.heap.size w w0 := (Below.refl _ _).grown hgrow0 (Nat.le_refl _) (fun k hk => by simp at hk)
  clear hown0 hgrow0
  go_wp2
  go_loopw [4] (fun i wr => ∃ (k : Nat) (zs : List Int), k ≤ xs.length + 64 ∧ i = .int .i64 k ∧ zs.length = xs.length + 64 ∧ Owns wr w.heap.size (.slice (some ⟨w.heap.size, 0, none⟩) zs.length (xs.length + 64)) zs ∧ (∀ j, j < k → zs.getD j 0 = (wide xs).getD j 0) ∧ Below w.heap.size w wr) (fun i _ => xs.length + 64 - (intOf i).toNat)
  case atStart => exact ⟨0, _, Nat.zero_le _, rfl, by simp, hown1, fun j hj => by omega, hbel0⟩
  case round =>
    clear hown1 hbel0 w0
    obtain ⟨k, zs, hk, rfl, hzl, hown, hpt, hbel⟩ := hrel
    have HZ : Hid _ := hzl
    have HP : Hid _ := hpt
    have HO : Hid (Owns wr w.heap.size (.slice (some ⟨w.heap.size, 0, none⟩) zs.length (xs.length + 64)) zs) := hown
    clear hpt hzl
    by_cases hlt : k < xs.length + 64
    · have hcz := owns_cell hown k (by rw [HZ.out]; omega)
      have hfz := hown.frozenAt k
      have HW : Hid _ := wide_nth xs k hlt
      clear hown
      by_cases hlx : k < xs.length
      · rcases h3 with h3 | ⟨b, off, rfl, h3⟩
        · subst h3; simp at hlx
        · have hc := cell_later (h3 k hlx) hbel (Nat.le_refl _)
          have hbB : b < w.heap.size := by have := World.block_lt_of_cell? w _ (h3 k hlx); simpa using this
          have hne : ¬ b = w.heap.size := by omega
          have hne' : ¬ w.heap.size = b := by omega
          have hw1 := HW.out
          rw [if_pos hlx] at hw1
          have HX : Hid _ := hw1.symm
          clear h3 HW hw1
          generalize xs.getD k 0 = x at *
          go_wp2
          have R := wide_rel2 HZ.out hlt (170 + (k : Int) % 5) x HX.out HO.out HP.out hbel
          obtain ⟨zs', r1, r2, r3, r4⟩ := R
          go_roundw
          case rel => exact ⟨k + 1, zs', by omega, by go_num, r1, r2, r3, r4⟩
          case measure => simp [intOf]; omega
      · have hw1 := HW.out
        rw [if_neg hlx] at hw1
        have HX : Hid _ := hw1.symm
        clear HW hw1
        go_wp2
        have R := wide_rel1 HZ.out hlt (170 + (k : Int) % 5) HX.out HO.out HP.out hbel
        obtain ⟨zs', r1, r2, r3, r4⟩ := R
        go_roundw
        case rel => exact ⟨k + 1, zs', by omega, by go_num, r1, r2, r3, r4⟩
        case measure => simp [intOf]; omega
    · have he : zs = wide xs := list_of_nths (by rw [HZ.out, wide_len]) (fun j hj => HP.out j (by have := HZ.out; omega))
      have HO1 := HO.out
      rw [he] at HO1
      have HO2 : Hid (Owns wr w.heap.size (.slice (some ⟨w.heap.size, 0, none⟩) (wide xs).length (xs.length + 64)) (wide xs)) := HO1
      clear HO HO1 he HP HZ hown
      go_wp2
      go_ret
      exact ⟨rfl, HO2.out, hbel⟩

/-- SpareBytes of a slice that WideBytes laid: true where the 64 marks behind it stand; the slice's own bytes may be others by now. -/
theorem spareBytes_any (g : Nat) (xs zs : List Int) (w : World) (hown : Owns w g (.slice (some ⟨g, 0, none⟩) zs.length (xs.length + 64)) zs) (hzl : zs.length = xs.length + 64)
    (hsp : ∀ j, xs.length ≤ j → j < xs.length + 64 → zs.getD j 0 = 170 + (j : Int) % 5) (hreach : xs.length ≤ 70000000000000) :
    Calls Tryz.prog 9 #[.slice (some ⟨g, 0, none⟩) xs.length (xs.length + 64)] w fun e w' => e = .returned (.bool true) ∧ w' = w := by
  have HZ : Hid _ := hzl
  have HO : Hid (Owns w g (.slice (some ⟨g, 0, none⟩) zs.length (xs.length + 64)) zs) := hown
  have HP : Hid _ := hsp
  clear hzl hown hsp
  generalize xs.length = n at *
  go_enter Tryz.func9, Tryz.ntmps9
  go_wp2
  go_loop [4] (fun i => ∃ k : Nat, n ≤ k ∧ k ≤ n + 64 ∧ i = .int .i64 k) (fun i => n + 64 - (intOf i).toNat)
  case atStart => exact ⟨n, by omega, by omega, rfl⟩
  case round =>
    obtain ⟨k, hk0, hk1, rfl⟩ := hrel
    by_cases hlt : k < n + 64
    · have hc := owns_cell HO.out k (by rw [HZ.out]; omega)
      rw [HP.out k hk0 hlt] at hc
      go_wp2
      go_round
      case rel => exact ⟨k + 1, by omega, by omega, by go_num⟩
      case measure => simp [intOf]; omega
    · go_wp2
      go_ret
      exact ⟨rfl, rfl⟩
end Go.Proofs.YtblgipjipeaemaaGreatDoor
