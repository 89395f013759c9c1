/- What put of the statements does with a buffer and with raw bytes: the list that is handed in stays, its spare room too, and may be written over then. -/
import Derived.Test.YtmjcpcpcngpdjaaGreatDoorPut
namespace Go.Proofs.YtmjcpcpcngpdjaaGreatDoor
open Go.RowKit
set_option maxRecDepth 8000

theorem news {w w' : World} (h : Below w.heap.size w w') : Kept w w' (fun _ => False) := (Below.kept h).mono (fun k hk hs => by omega)

set_option maxHeartbeats 1000000 in
theorem put_buffer (g : Nat) (v : Value) (xs ys : List Int) (on n : Int) (x : Nat) (s : ByteArray) (ao : Option Addr) (cap : Nat) (w : World) (h : IsW w g v xs) (hs : Sees w (.slice ao ys.length cap) ys)
    (hap : ys ≠ [] → ∀ k, (Value.slice ao ys.length cap).ownBlock = some k → k ≠ g ∧ v.ownBlock ≠ some k) (hl : ys.length ≤ 2147483647) (hb : (xs ++ (be4 ys.length ++ ys)).length ≤ 140737488355328) :
    Calls Tryz.prog 7 #[.pointer (some ⟨g, 0, none⟩), opv 8 on n x s (.slice ao ys.length cap)] w fun e w' => ∃ u, e = .returned (.tuple #[u, .bool true]) ∧ PutTo w g v xs (be4 ys.length ++ ys) u w' := by
  have H : Hid (IsW w g v xs ∧ Sees w (.slice ao ys.length cap) ys ∧ (ys ≠ [] → ∀ k, (Value.slice ao ys.length cap).ownBlock = some k → k ≠ g ∧ v.ownBlock ≠ some k)) := ⟨h, hs, hap⟩
  have hgw : g < w.heap.size := lt_of_block h.1
  clear h hs hap
  go_enter Tryz.func7, Tryz.ntmps7
  go_wp2_with fail
  have hk0 : Kept w (w.alloc (opc 8 on n x s (.slice ao ys.length cap))) (fun _ => False) := (Kept.refl w _).alloc _
  have HK0 : Hid (Kept w (w.alloc (opc 8 on n x s (.slice ao ys.length cap))) (fun _ => False)) := hk0
  clear hk0
  refine (wideBytes_any _ ys _ (by exact H.out.2.1.kept HK0.out (fun _ _ h => h)) (by omega)).mono ?_
  rintro e w1 ⟨rfl, ho1, hb1⟩
  have hz1 : w.heap.size + 1 < w1.heap.size := by have := (ho1.lt _ rfl).2; simpa using this
  have hO1 : Owns w1 (w.heap.size + 1) (.slice (some ⟨w.heap.size + 1, 0, none⟩) (wide ys).length (ys.length + 64)) (wide ys) := by simpa using ho1
  have HO1 : Hid (Owns w1 (w.heap.size + 1) (.slice (some ⟨w.heap.size + 1, 0, none⟩) (wide ys).length (ys.length + 64)) (wide ys)) := hO1
  clear hO1
  have hk1 : Kept w w1 (fun _ => False) := HK0.out.trans (news hb1) (fun _ _ h => h)
  have hbox1 : w1.heap[w.heap.size]? = some (opc 8 on n x s (.slice ao ys.length cap)) := (news hb1).heap (heap_alloc_new w _) (fun h => h)
  have HB1 : Hid (Kept w w1 (fun _ => False) ∧ w1.heap[w.heap.size]? = some (opc 8 on n x s (.slice ao ys.length cap))) := ⟨hk1, hbox1⟩
  have c5 := opc5 hbox1
  clear ho1 hb1 hk1 hbox1
  have ealloc : (w.alloc (opc 8 on n x s (.slice ao ys.length cap))).heap.size = w.heap.size + 1 := by simp
  try rw [ealloc]
  clear ealloc
  go_wp2_with fail
  refine (copyBytes_any _ ys _ (H.out.2.1.kept HB1.out.1 (fun _ _ h => h)) (by omega)).mono ?_
  rintro e w2 ⟨v2, rfl, ho2, hb2⟩
  have HB2 : Hid (Kept w w2 (fun _ => False) ∧ w2.heap[w.heap.size]? = some (opc 8 on n x s (.slice ao ys.length cap)) ∧ Owns w2 (w.heap.size + 1) (.slice (some ⟨w.heap.size + 1, 0, none⟩) (wide ys).length (ys.length + 64)) (wide ys) ∧ w1.heap.size ≤ w2.heap.size) :=
    ⟨HB1.out.1.trans (news hb2) (fun _ _ h => h), (news hb2).heap HB1.out.2 (fun h => h), Owns.kept HO1.out (news hb2) (fun _ _ h => h), hb2.size⟩
  have c0 := opc0 HB2.out.2.1
  clear ho2 hb2 HB1 HO1 c5
  go_wp2_with fail
  have hin := sees_prefix HB2.out.2.2.1 (n := ys.length) (by rw [wide_len]; omega)
  rw [wide_take] at hin
  have hW2 := H.out.1.kept HB2.out.1 (fun h => h) (fun _ _ h => h)
  refine (wBuffer_any g v _ xs ys _ hW2 hin (fun k hk => ?_) hl (by rw [List.length_append, List.length_append] at hb; simp [be4] at hb; omega)).mono ?_
  · simp [Value.ownBlock] at hk
    subst hk
    refine ⟨by omega, fun e => ?_⟩
    have := (H.out.1.2.lt _ e).2
    omega
  clear hin hW2
  rintro e w3 ⟨rfl, hp⟩
  obtain ⟨v3, hW3, hN3, hK3⟩ := hp
  have hrow : ∀ k, v.ownBlock = some k → k < w.heap.size := fun k hk => (H.out.1.2.lt k hk).2
  have HB3 : Hid (Kept w w3 (fun k => k = g ∨ v.ownBlock = some k) ∧ w3.heap[w.heap.size]? = some (opc 8 on n x s (.slice ao ys.length cap)) ∧ Owns w3 (w.heap.size + 1) (.slice (some ⟨w.heap.size + 1, 0, none⟩) (wide ys).length (ys.length + 64)) (wide ys) ∧ IsW w3 g v3 (xs ++ (be4 ys.length ++ ys)) ∧ NewRow w v v3 ∧ v3.ownBlock ≠ some (w.heap.size + 1) ∧ w2.heap.size ≤ w3.heap.size) := by
    refine ⟨(HB2.out.1.mono (fun _ _ h => h.elim)).trans hK3 (fun _ _ h => h), hK3.heap HB2.out.2.1 (fun hs => ?_), Owns.kept HB2.out.2.2.1 hK3 (fun k hk hs => ?_), hW3, ?_, ?_, hK3.size⟩
    · rcases hs with hs | hs
      · omega
      · have := hrow _ hs; omega
    · simp [Value.ownBlock] at hk
      subst hk
      rcases hs with hs | hs
      · omega
      · have := hrow _ hs; omega
    · rcases hN3 with e | ⟨b, e, hb'⟩
      · exact .inl e
      · exact .inr ⟨b, e, by have := HB2.out.2.2.2; omega⟩
    · intro e
      rcases hN3 with e2 | ⟨b, e2, hb'⟩
      · rw [e2] at e; have := hrow _ e; omega
      · rw [e2] at e; simp at e; have := HB2.out.2.2.2; omega
  have hsee3 : Sees w3 (.slice ao ys.length cap) ys := by
    by_cases hy : ys = []
    · obtain ⟨ao', cap', e, q1, q2, q0, _⟩ := H.out.2.1
      exact ⟨ao', cap', e, q1, q2, q0, .inl hy⟩
    · refine H.out.2.1.kept HB3.out.1 (fun k hk hs => ?_)
      have := H.out.2.2 hy k hk
      rcases hs with hs | hs
      · exact this.1 hs
      · exact this.2 hs
  have HS3 : Hid (Sees w3 (.slice ao ys.length cap) ys) := hsee3
  have hz3 : w.heap.size + 1 < w3.heap.size := by have := (HB3.out.2.2.1.lt _ rfl).2; exact this
  have c5 := opc5 HB3.out.2.1
  clear hW3 hN3 hK3 HB2 hsee3 c0
  go_wp2_with fail
  refine (refBuffer_any _ ys _ HS3.out hl).mono ?_
  rintro e w4 ⟨v4, rfl, ho4, hb4⟩
  have HB4 : Hid (Kept w3 w4 (fun _ => False) ∧ Owns w4 w3.heap.size v4 (be4 ys.length ++ ys) ∧ w4.heap[w.heap.size]? = some (opc 8 on n x s (.slice ao ys.length cap)) ∧ Owns w4 (w.heap.size + 1) (.slice (some ⟨w.heap.size + 1, 0, none⟩) (wide ys).length (ys.length + 64)) (wide ys) ∧ Sees w4 (.slice ao ys.length cap) ys) :=
    ⟨(news hb4), ho4, (news hb4).heap HB3.out.2.1 (fun h => h), Owns.kept HB3.out.2.2.1 (news hb4) (fun _ _ h => h), HS3.out.kept (news hb4) (fun _ _ h => h)⟩
  have c5' := opc5 HB4.out.2.2.1
  clear ho4 hb4 HS3 c5
  go_wp2_with fail
  have hin := sees_prefix HB4.out.2.2.2.1 (n := ys.length) (by rw [wide_len]; omega)
  rw [wide_take] at hin
  refine (eqBytes_any _ _ ys ys _ hin HB4.out.2.2.2.2).mono ?_
  clear hin
  rintro e w5 ⟨rfl, n5, hw5⟩
  have ed : decide (ys = ys) = true := by simp
  rw [ed]
  clear ed
  have hk5 : Kept w4 w5 (fun _ => False) := by rw [hw5]; exact (Kept.refl w4 _).drewN _
  have HB5 : Hid (Kept w3 w5 (fun _ => False) ∧ Owns w5 w3.heap.size v4 (be4 ys.length ++ ys) ∧ Owns w5 (w.heap.size + 1) (.slice (some ⟨w.heap.size + 1, 0, none⟩) (wide ys).length (ys.length + 64)) (wide ys)) :=
    ⟨HB4.out.1.trans hk5 (fun _ _ h => h), Owns.kept HB4.out.2.1 hk5 (fun _ _ h => h), Owns.kept HB4.out.2.2.2.1 hk5 (fun _ _ h => h)⟩
  clear hw5 hk5 HB4 c5'
  go_wp2_with fail
  refine (spareBytes_any (w.heap.size + 1) ys (wide ys) _ HB5.out.2.2 (wide_len ys) (fun j h1 h2 => by rw [wide_nth ys j h2, if_neg (by omega)]) (by omega)).mono ?_
  rintro e w6 ⟨rfl, rfl⟩
  go_wp2_with fail
  refine (spoil_any (w.heap.size + 1) (wide ys) ys.length _ _ (owns_mono HB5.out.2.2 (Nat.zero_le _)) (by rw [wide_len]; omega) (by rw [wide_len]; omega)).mono ?_
  rintro e w7 ⟨rfl, hk7⟩
  have HR : Hid (PutTo w g v xs (be4 ys.length ++ ys) v4 w7) := by
    refine ⟨(Sees.own HB5.out.2.1).kept hk7 (fun k hk hs => ?_), fun k hk => ?_, v3, ?_, HB3.out.2.2.2.2.1, ?_⟩
    · have := (HB5.out.2.1.lt k hk).1; omega
    · have := (HB5.out.2.1.lt k hk).1; omega
    · refine (HB3.out.2.2.2.1.kept HB5.out.1 (fun h => h) (fun _ _ h => h)).kept hk7 (by omega) (fun k hk hs => ?_)
      subst hs
      exact HB3.out.2.2.2.2.2.1 hk
    · exact (HB3.out.1.trans HB5.out.1 (fun _ _ h => h.elim)).trans hk7 (fun k hk hs => by omega)
  clear hk7 HB5 HB3
  go_wp2
  go_ret2
  exact ⟨_, rfl, HR.out⟩
end Go.Proofs.YtmjcpcpcngpdjaaGreatDoor
