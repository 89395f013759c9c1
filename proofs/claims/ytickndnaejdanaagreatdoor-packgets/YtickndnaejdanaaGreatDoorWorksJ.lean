/- What the statements' own first look 'works' answers: true; nothing that was there before is changed. -/
import Derived.Test.YtickndnaejdanaaGreatDoorReaderJ
import Derived.Test.YtickndnaejdanaaGreatDoorLeafSumJ
namespace Go.Proofs.YtickndnaejdanaaGreatDoor
open Go.RowKit
set_option maxRecDepth 8000

theorem byts_lit {xs : List Int} (h : xs.all (fun x => decide (0 ≤ x ∧ x ≤ 255)) = true) : Byts xs := fun x hx => by
  have := List.all_eq_true.1 h x hx
  simpa using this

theorem below_writer {B : Nat} {w w' : World} {g : Nat} {v : Value} (h : Kept w w' (fun k => k = g ∨ v.ownBlock = some k)) (hB : B ≤ w.heap.size) (hg : B ≤ g) (hv : ∀ k, v.ownBlock = some k → B ≤ k) : Below B w w' := by
  refine h.below hB (fun k hk => ?_)
  rcases hk with hk | hk
  · omega
  · exact hv k hk

theorem below_reader {B : Nat} {w w' : World} {g : Nat} (h : Kept w w' (· = g)) (hB : B ≤ w.heap.size) (hg : B ≤ g) : Below B w w' :=
  h.below hB (fun k hk => by omega)

theorem works_e1 : rdNum 4 [255, 255, 255, 254, 9] 0 = ⟨4294967294, [9], 0⟩ := by simp [rdNum, num]
theorem works_e2 : down32 4294967294 = -2 := by rw [down32_is _ (by omega) (by omega)]; simp
theorem works_e3 : adler [97, 98, 99] = 38600999 := by decide

set_option maxHeartbeats 400000 in
theorem works_any (w : World) : Calls Tryz.prog 4 #[] w fun e w' => e = .returned (.bool true) ∧ Below w.heap.size w w' := by
  have HW0 : Hid (IsW (w.alloc (.cells #[.slice none 0 0] 68)) w.heap.size (.slice none 0 0) []) := ⟨heap_alloc_new _ _, World.ownsRow_nil _ _ _ _⟩
  go_enter Tryz.func4, Tryz.ntmps4
  go_wp2_with fail
  refine (wInt32_any w.heap.size _ [] (-2) _ HW0.out (by simp)).mono ?_
  rintro e w1 ⟨rfl, hp⟩
  obtain ⟨vW, hW, hnW, hK⟩ := hp
  have HB1 : Hid (Below w.heap.size w w1) := ((Below.refl w.heap.size w).alloc (Nat.le_refl _) _).trans (below_writer hK (by simp) (Nat.le_refl _) (fun k hk => by simp [Value.ownBlock] at hk))
  have HW1 : Hid (IsW w1 w.heap.size vW [255, 255, 255, 254]) := hW
  clear hW hnW hK HW0
  go_wp2_with fail
  refine (new_any _ [255, 255, 255, 254, 9] _ (sees_new _ [255, 255, 255, 254, 9] (by simp) rfl) (by simp)).mono ?_
  rintro e w2 ⟨gR, vR, rfl, hR, hgR, hoR, hb⟩
  have hz2 : w1.heap.size + 1 ≤ gR := by simpa using hgR
  have hs1 := HB1.out.size
  have HB2 : Hid (Below w.heap.size w w2) := (HB1.out.alloc hs1 _).trans (hb.mono (by simp; omega))
  have hlW : ∀ k, vW.ownBlock = some k → k < w1.heap.size := fun k hk => (HW1.out.2.lt k hk).2
  have hgW : w.heap.size < w1.heap.size := lt_of_block HW1.out.1
  have HW2 : Hid (IsW w2 w.heap.size vW [255, 255, 255, 254]) := ((HW1.out.alloc _).kept (Below.kept hb) (by simp; omega) (fun k hk => by have := hlW k hk; simp; omega))
  have HR2 : Hid (IsR w2 gR vR [255, 255, 255, 254, 9] 0 ∧ (∀ k, vR.ownBlock = some k → w1.heap.size < k)) := ⟨hR, fun k hk => by have := (hoR.lt k hk).1; simp at this; omega⟩
  have HL : Hid (∀ k, vW.ownBlock = some k → k < w1.heap.size) := hlW
  clear hR hoR hb HW1 HB1 hlW hgR
  go_wp2_with fail
  refine (rInt32_any gR vR _ 0 _ HR2.out.1 (byts_lit rfl)).mono ?_
  rintro e w3 ⟨rfl, hr⟩
  rw [works_e1] at hr
  rw [works_e1, works_e2]
  obtain ⟨vR', hR3, hvR, hk3⟩ := hr
  have HW3 : Hid (IsW w3 w.heap.size vW [255, 255, 255, 254]) := HW2.out.kept hk3 (by omega) (fun k hk => by have := HL.out k hk; omega)
  have HR3 : Hid (IsR w3 gR vR' [9] 0) := hR3
  have HB3 : Hid (Below w.heap.size w w3) := HB2.out.trans (below_reader hk3 HB2.out.size (by omega))
  clear hR3 hvR hk3 HR2 HW2 HB2 HL
  go_wp2_with fail
  refine (packSum_any _ [97, 98, 99] _ (sees_new _ [97, 98, 99] (by simp) rfl) (byts_lit rfl)).mono ?_
  rintro e w4 ⟨rfl, hw4⟩
  rw [works_e3]
  have HW4 : Hid (IsW w4 w.heap.size vW [255, 255, 255, 254]) := by rw [hw4]; exact HW3.out.alloc _
  have HR4 : Hid (IsR w4 gR vR' [9] 0) := by rw [hw4]; exact HR3.out.kept ((Kept.refl _ (fun _ => False)).alloc _) (fun h => h) (fun _ _ h => h)
  have HB4 : Hid (Below w.heap.size w w4) := by rw [hw4]; exact HB3.out.alloc HB3.out.size _
  have hgR4 : gR < w4.heap.size := lt_of_block HR4.out.1
  have hlR : ∀ k, vR'.ownBlock = some k → k < w4.heap.size := fun k hk => by
    obtain ⟨ao, cap, rfl, _, _, _, h3⟩ := HR4.out.2
    rcases h3 with h3 | ⟨b, off, rfl, h3⟩
    · simp at h3
    · simp [Value.ownBlock] at hk
      subst hk
      have := World.block_lt_of_cell? w4 _ (h3 0 (by simp))
      simpa using this
  have HL : Hid (∀ k, vR'.ownBlock = some k → k < w4.heap.size) := hlR
  clear hw4 HW3 HR3 HB3 hlR
  go_wp2_with fail
  refine (wBytes_any _ vW _ _ HW4.out (by simp)).mono ?_
  rintro e w5 ⟨v5, rfl, ho5, hb5⟩
  have HO5 : Hid (Owns w5 w4.heap.size v5 [255, 255, 255, 254]) := ho5
  have HR5 : Hid (IsR w5 gR vR' [9] 0) := HR4.out.kept (Below.kept hb5) (by omega) (fun k hk => by have := HL.out k hk; omega)
  have HB5 : Hid (Below w.heap.size w w5) := HB4.out.trans (hb5.mono HB4.out.size)
  clear ho5 hb5 HW4 HR4 HB4 HL
  go_wp2_with fail
  refine (eqBytes_any _ _ [255, 255, 255, 254] [255, 255, 255, 254] _ (by exact Sees.own (HO5.out.alloc _)) (by exact sees_new _ [255, 255, 255, 254] (by simp) rfl)).mono ?_
  rintro e w6 ⟨rfl, n6, hw6⟩
  have HR6 : Hid (IsR w6 gR vR' [9] 0) := by rw [hw6]; exact HR5.out.kept (((Kept.refl _ (fun _ => False)).alloc _).drewN _) (fun h => h) (fun _ _ h => h)
  have HB6 : Hid (Below w.heap.size w w6) := by rw [hw6]; exact below_drewN (HB5.out.alloc HB5.out.size _) _
  have ed : decide (([255, 255, 255, 254] : List Int) = [255, 255, 255, 254]) = true := by decide
  rw [ed]
  clear hw6 HR5 HB5 HO5 ed
  go_wp2_with fail
  refine (rLeft_any gR vR' [9] 0 _ HR6.out).mono ?_
  rintro e w7 ⟨rfl, rfl⟩
  go_wp2
  go_ret
  exact ⟨rfl, HB6.out⟩
end Go.Proofs.YtickndnaejdanaaGreatDoor
