/- The walk of PackNoPut of the statements of layer 1: whatever texts and whatever bound it is given, it answers true and changes nothing that was there before. -/
import Derived.Test.YtmjcpcpcngpdjabDoorNoPut
import Derived.Test.YtmjcpcpcngpdjabDoorMark
import Derived.Test.YtmjcpcpcngpdjabDoorDigits
import Derived.Test.YtmjcpcpcngpdjabDoorJoined
import Derived.Test.YtmjcpcpcngpdjabDoorShell
namespace Go.Proofs.YtmjcpcpcngpdjabDoor
open Go.RowKit
namespace packNoPut

theorem nilLen_any (w : World) : Calls Tryd.prog 15 #[.pointer none] w fun e w' => e = .returned (.int .i64 0) ∧ w' = w := by
  go_enter Tryd.func15, Tryd.ntmps15
  go_wp2
  go_ret
  exact ⟨rfl, rfl⟩

theorem num_be4 (n : Nat) (h : n ≤ 4194304) : num (be4 n) = n := by
  simp only [num, be4, List.foldl_cons, List.foldl_nil]
  omega

theorem ahead_be4 (n : Nat) (zs : List Int) (h : n ≤ 4194304) : ahead (be4 n ++ zs) = n := by
  have e : (be4 (n : Int) ++ zs).take 4 = be4 n := by simp [be4]
  unfold ahead
  rw [e, num_be4 n h]
  unfold wrap32; omega

theorem byts_be4 (n : Nat) (h : n ≤ 4194304) : Byts (be4 n) := by
  intro x hx
  simp [be4] at hx
  omega

theorem byts_zeros (n : Nat) : Byts (List.replicate n 0) := by
  intro x hx
  rw [List.eq_of_mem_replicate hx]; omega

theorem zeros_shape {w : World} {base : Nat} {v : Value} {n : Nat} (h : w.ownsRow base 36 1 v n (zeros n)) : ∃ ao c, v = .slice ao n c ∧ ∀ j, j < n → ∃ b, ao = some ⟨b, 0, none⟩ ∧ w.cell? ⟨b, j, none⟩ = some (.int .i8 0) := by
  rcases h.2 with ⟨rfl, rfl⟩ | ⟨b, c, cur, rfl, _⟩
  · exact ⟨none, 0, rfl, fun j hj => by omega⟩
  · refine ⟨_, c, rfl, fun j hj => ⟨b, rfl, ?_⟩⟩
    rw [h.cellAt j (by omega)]
    simp [zeros, hj]

set_option maxRecDepth 100000 in
set_option maxHeartbeats 1000000 in
theorem walk (a0 : Option Addr) (cap0 : Nat) (ss : List ByteArray) (a1 : Int) (w : World) (hs : SeesS w (.slice a0 ss.length cap0) ss) (ht : Tab w) (hg0 : 0 < w.heap.size) :
    Calls Tryd.prog 3 #[.slice a0 ss.length cap0, .int .i64 a1] w fun e w' => e = .returned (.bool true) ∧ Below w.heap.size w w' := by
  have HS : Hid (SeesS w (.slice a0 ss.length cap0) ss ∧ Tab w ∧ 0 < w.heap.size) := ⟨hs, ht, hg0⟩
  have q : ss.length ≤ cap0 ∧ cap0 ≤ 9223372036854775807 := by
    obtain ⟨ao, cap, e, h1, h2, _⟩ := hs
    simp at e
    obtain ⟨rfl, rfl⟩ := e
    unfold maxLen at h2
    exact ⟨h1, by omega⟩
  have q1 := q.1
  have q2 := q.2
  clear hs ht hg0 q
  by_cases hbig : 4194304 < ss.length
  · go_enter Tryd.func3, Tryd.ntmps3
    go_wp2_with fail
    refine (works_any _).mono ?_
    rintro e w1 ⟨rfl, hb1⟩
    have HB1 : Hid (Below w.heap.size w w1) := hb1
    clear hb1
    go_wp2
    go_ret
    exact ⟨rfl, HB1.out⟩
  have hd1 : decide ((4194304 : Int) < (ss.length : Int)) = false := by simp; omega
  have hn : ss.length ≤ 4194304 := by omega
  clear hbig
  obtain ⟨i0, hi, hz0, hz1, hz2⟩ := info_parts Tryd.infoByte
  go_enter Tryd.func3, Tryd.ntmps3
  go_wp2_with fail
  refine (works_any _).mono ?_
  rintro e w1 ⟨rfl, hb1⟩
  have hz1' := hb1.size
  have HB1 : Hid (Below w.heap.size w w1) := hb1
  clear hb1
  go_wp2_with fail
  have HA : Hid (Below w.heap.size w (w1.alloc (.cells #[.slice none 0 0] 27))) := HB1.out.alloc hz1' _
  refine (wideTexts_any _ ss _ (HS.out.1.below HA.out (Nat.le_refl _)) hn (HS.out.2.1.below HA.out HS.out.2.2) (Nat.lt_of_lt_of_le HS.out.2.2 HA.out.size)).mono ?_
  rintro e w2 ⟨rfl, hb2⟩
  have hW2 : IsW w2 w1.heap.size (.slice none 0 0) [] := IsW.kept (w := w1.alloc (.cells #[.slice none 0 0] 27)) ⟨heap_alloc_new _ _, World.ownsRow_nil _ _ _ _⟩ (Below.kept hb2) (by simp) (fun k hk => by simp [Value.ownBlock] at hk)
  have hz2' : w1.heap.size < w2.heap.size := by have := hb2.size; simp at this; omega
  have HW2 : Hid (IsW w2 w1.heap.size (.slice none 0 0) [] ∧ Below w.heap.size w w2) := ⟨hW2, HA.out.trans (hb2.mono (by simp; omega))⟩
  clear hW2 hb2 HA HB1
  go_wp2_with fail
  refine (putListS_nil w1.heap.size _ [] _ ss.length _ _ HW2.out.1 hn (by simp)).mono ?_
  rintro e w3 ⟨rfl, hp⟩
  obtain ⟨v3, hW3, hN3, hK3⟩ := hp
  rw [List.nil_append] at hW3
  have HW3 : Hid (IsW w3 w1.heap.size v3 (be4 ss.length) ∧ Below w.heap.size w w3) := ⟨hW3, HW2.out.2.trans (below_writer hK3 HW2.out.2.size hz1' (fun k hk => by simp [Value.ownBlock] at hk))⟩
  clear hW3 hN3 hK3 HW2
  go_wp2_with fail
  refine (refInt32_any ss.length _ (by omega) (by omega)).mono ?_
  rintro e w4 ⟨v4, rfl, ho4, hb4⟩
  rw [show up32 (ss.length : Int) = ss.length by unfold up32; omega] at ho4
  have hw13 : w1.heap.size < w3.heap.size := lt_of_block HW3.out.1.1
  have HW4 : Hid (IsW w4 w1.heap.size v3 (be4 ss.length) ∧ Below w.heap.size w w4 ∧ Owns w4 w3.heap.size v4 (be4 ss.length)) :=
    ⟨HW3.out.1.kept (Below.kept hb4) (by omega) (fun k hk hs => by have := (HW3.out.1.2.lt k hk).2; omega), HW3.out.2.trans (hb4.mono HW3.out.2.size), ho4⟩
  clear ho4 hb4 HW3
  go_wp2_with fail
  refine (putListS_none _ _).mono ?_
  rintro e w5 ⟨rfl, rfl⟩
  go_wp2_with (at_make; refine wpList_make_full _ rfl _ _ 25 rfl w5.heap.size 5 i0 (.int .u8 0) 1 Tryd.underlying25 hi hz0 hz1 .i64 .i64 _ _ ss.length rfl rfl (by omega) (by omega) (by rw [hz2]; omega) (by unfold maxLen; omega) (Nat.le_refl _) ?_)
  intro w6 hown0 hgrow0
  have hown1 := made_owns hown0
  have hk6 : Kept w5 w6 (fun _ => False) := (Kept.refl w5 _).grown hgrow0 (fun k _ hk => by simp at hk)
  have HW6 : Hid (IsW w6 w1.heap.size v3 (be4 ss.length) ∧ Below w.heap.size w w6 ∧ Owns w6 w3.heap.size v4 (be4 ss.length) ∧ Sees w6 (.slice (some ⟨w5.heap.size, 0, none⟩) ss.length ss.length) (List.replicate ss.length 0)) := by
    refine ⟨HW4.out.1.kept hk6 (fun h => h) (fun _ _ h => h), HW4.out.2.1.trans (hk6.below HW4.out.2.1.size (fun _ h => h.elim)), Owns.kept HW4.out.2.2 hk6 (fun _ _ h => h), ?_⟩
    have := Sees.own hown1
    rw [List.length_replicate] at this
    exact this
  clear hown0 hown1 hgrow0 hk6 HW4
  go_wp2_with fail
  refine (joined_any v4 _ (be4 ss.length) (List.replicate ss.length 0) _ (Sees.own HW6.out.2.2.1) HW6.out.2.2.2 (by simp [be4]; omega)).mono ?_
  rintro e w7 ⟨v7, rfl, ho7, hb7⟩
  have hl6 : w1.heap.size < w6.heap.size := lt_of_block HW6.out.1.1
  have HW7 : Hid (IsW w7 w1.heap.size v3 (be4 ss.length) ∧ Below w.heap.size w w7 ∧ Owns w7 w3.heap.size v4 (be4 ss.length) ∧ Sees w7 v7 (be4 ss.length ++ List.replicate ss.length 0)) :=
    ⟨HW6.out.1.kept (Below.kept hb7) (by omega) (fun k hk hs => by have := (HW6.out.1.2.lt k hk).2; omega), HW6.out.2.1.trans (hb7.mono HW6.out.2.1.size), Owns.kept HW6.out.2.2.1 (Below.kept hb7) (fun k hk hs => by have := (HW6.out.2.2.1.lt k hk).2; omega), Sees.own ho7⟩
  clear ho7 hb7 HW6
  go_wp2_with fail
  refine (new_any v7 (be4 ss.length ++ List.replicate ss.length 0) _ HW7.out.2.2.2 (by simp [be4]; omega)).mono ?_
  rintro e w8 ⟨gR, vR, rfl, hR8, hg8, ho8, hb8⟩
  have hl7 : w1.heap.size < w7.heap.size := lt_of_block HW7.out.1.1
  have HW8 : Hid (IsW w8 w1.heap.size v3 (be4 ss.length) ∧ Below w.heap.size w w8 ∧ Owns w8 w3.heap.size v4 (be4 ss.length) ∧ (∀ k, v3.ownBlock = some k → k < w7.heap.size) ∧ (∀ k, v4.ownBlock = some k → k < w7.heap.size)) :=
    ⟨HW7.out.1.kept (Below.kept hb8) (by omega) (fun k hk hs => by have := (HW7.out.1.2.lt k hk).2; omega), HW7.out.2.1.trans (hb8.mono HW7.out.2.1.size), Owns.kept HW7.out.2.2.1 (Below.kept hb8) (fun k hk hs => by have := (HW7.out.2.2.1.lt k hk).2; omega), fun k hk => (HW7.out.1.2.lt k hk).2, fun k hk => (HW7.out.2.2.1.lt k hk).2⟩
  have HR8 : Hid (IsR w8 gR vR (be4 ss.length ++ List.replicate ss.length 0) 0 ∧ Byts (be4 ss.length ++ List.replicate ss.length 0) ∧ ahead (be4 ss.length ++ List.replicate ss.length 0) = ss.length ∧ (be4 ss.length ++ List.replicate ss.length 0).length = ss.length + 4) :=
    ⟨hR8, (byts_be4 _ hn).append (byts_zeros _), ahead_be4 _ _ hn, by simp [be4]⟩
  clear hR8 ho8 hb8 HW7
  by_cases hm : a1 < (ss.length : Int)
  · go_wp2_with fail
    refine (getList_wide gR vR _ a1 _ HR8.out.1 HR8.out.2.1 (by rw [HR8.out.2.2.2]; omega) (.inr (by rw [HR8.out.2.2.1]; exact hm))).mono ?_
    rintro e w9 ⟨rfl, hw9⟩
    have hk9 : Kept w8 w9 (· = gR) := by rw [hw9]; exact (Kept.refl w8 _).setCell _ _ (fun _ => rfl)
    have HR9 : Hid (IsR w9 gR vR (be4 ss.length ++ List.replicate ss.length 0) 11) := by rw [hw9]; exact HR8.out.1.fail 11
    have HW9 : Hid (IsW w9 w1.heap.size v3 (be4 ss.length) ∧ Below w.heap.size w w9 ∧ Owns w9 w3.heap.size v4 (be4 ss.length)) :=
      ⟨HW8.out.1.kept hk9 (by omega) (fun k hk hs => by have := HW8.out.2.2.2.1 k hk; omega), HW8.out.2.1.trans (below_reader hk9 HW8.out.2.1.size (by omega)), Owns.kept HW8.out.2.2.1 hk9 (fun k hk hs => by have := HW8.out.2.2.2.2 k hk; omega)⟩
    have HLEN : Hid ((be4 ss.length ++ List.replicate ss.length (0 : Int)).length = ss.length + 4) := HR8.out.2.2.2
    clear hw9 hk9 HW8 HR8
    go_wp2_with fail
    refine (rErr_any gR vR _ 11 _ HR9.out).mono ?_
    rintro e w10 ⟨rfl, rfl⟩
    go_wp2_with fail
    refine (rLeft_any gR vR _ 11 _ HR9.out).mono ?_
    rintro e w11 ⟨rfl, rfl⟩
    rw [HLEN.out]
    go_wp2_with fail
    refine (wBytes_any _ v3 _ _ HW9.out.1 (by simp [be4])).mono ?_
    rintro e w12 ⟨v12, rfl, ho12, hb12⟩
    have HW12 : Hid (Sees w12 v12 (be4 ss.length) ∧ Sees w12 v4 (be4 ss.length) ∧ Below w.heap.size w w12) := ⟨Sees.own ho12, (Sees.own HW9.out.2.2).below hb12 (Nat.le_refl _), HW9.out.2.1.trans (hb12.mono HW9.out.2.1.size)⟩
    clear ho12 hb12
    go_wp2_with fail
    refine (eqBytes_any _ _ (be4 ss.length) (be4 ss.length) _ HW12.out.1 HW12.out.2.1).mono ?_
    rintro e w13 ⟨rfl, n13, rfl⟩
    have ed : decide (be4 (ss.length : Int) = be4 ss.length) = true := by simp
    rw [ed]
    clear ed
    go_wp2
    go_ret
    exact ⟨rfl, below_drewN HW12.out.2.2 _⟩
  · go_wp2_with fail
    refine (getList_ok gR vR _ a1 ss.length _ HR8.out.1 HR8.out.2.1 (by rw [HR8.out.2.2.2]; exact Nat.le_refl _) HR8.out.2.2.1 (by omega) hn).mono ?_
    rintro e w9 ⟨v9, vR9, rfl, ho9, hR9, hk9⟩
    have HR9 : Hid (IsR w9 gR vR9 (List.replicate ss.length 0) 0) := by
      have e : (be4 (ss.length : Int) ++ List.replicate ss.length 0).drop 4 = List.replicate ss.length 0 := by simp [be4]
      rw [e] at hR9
      exact hR9
    have HW9 : Hid (IsW w9 w1.heap.size v3 (be4 ss.length) ∧ Below w.heap.size w w9 ∧ Owns w9 w3.heap.size v4 (be4 ss.length) ∧ w9.ownsRow w8.heap.size 36 1 v9 ss.length (zeros ss.length)) :=
      ⟨HW8.out.1.kept hk9 (by omega) (fun k hk hs => by have := HW8.out.2.2.2.1 k hk; omega), HW8.out.2.1.trans (below_reader hk9 HW8.out.2.1.size (by omega)), Owns.kept HW8.out.2.2.1 hk9 (fun k hk hs => by have := HW8.out.2.2.2.2 k hk; omega), ho9⟩
    obtain ⟨ao9, c9, hv9, hc9⟩ := zeros_shape ho9
    have HC9 : Hid (∀ j, j < ss.length → ∃ b, ao9 = some ⟨b, 0, none⟩ ∧ w9.cell? ⟨b, j, none⟩ = some (.int .i8 0)) := hc9
    clear ho9 hR9 hk9 HW8 HR8 hc9
    subst hv9
    have hmm : (ss.length : Int) ≤ a1 := by omega
    clear hm
    go_wp2
    go_loop [11] (fun i => ∃ k : Nat, k ≤ ss.length ∧ i = .int .i64 k) (fun i => ss.length - (intOf i).toNat)
    case atStart => exact ⟨0, Nat.zero_le _, rfl⟩
    case round =>
      obtain ⟨k, hk, rfl⟩ := hrel
      by_cases hlt : k < ss.length
      · obtain ⟨b, hb9, hc⟩ := HC9.out k hlt
        subst hb9
        go_wp2
        go_round
        case rel => exact ⟨k + 1, by omega, by go_num⟩
        case measure => simp [intOf]; omega
      · go_wp2_with fail
        refine (getList_none a1 _).mono ?_
        rintro e w10 ⟨rfl, rfl⟩
        go_wp2_with fail
        refine (rLeft_any gR vR9 _ 0 _ HR9.out).mono ?_
        rintro e w11 ⟨rfl, rfl⟩
        rw [List.length_replicate]
        go_wp2_with fail
        refine (nilLen_any _).mono ?_
        rintro e w12 ⟨rfl, rfl⟩
        go_wp2_with fail
        refine (wBytes_any _ v3 _ _ HW9.out.1 (by simp [be4])).mono ?_
        rintro e w13 ⟨v13, rfl, ho13, hb13⟩
        have HW13 : Hid (Sees w13 v13 (be4 ss.length) ∧ Sees w13 v4 (be4 ss.length) ∧ Below w.heap.size w w13) := ⟨Sees.own ho13, (Sees.own HW9.out.2.2.1).below hb13 (Nat.le_refl _), HW9.out.2.1.trans (hb13.mono HW9.out.2.1.size)⟩
        clear ho13 hb13
        go_wp2_with fail
        refine (eqBytes_any _ _ (be4 ss.length) (be4 ss.length) _ HW13.out.1 HW13.out.2.1).mono ?_
        rintro e w14 ⟨rfl, n14, rfl⟩
        have ed : decide (be4 (ss.length : Int) = be4 ss.length) = true := by simp
        rw [ed]
        clear ed
        go_wp2
        go_ret
        exact ⟨rfl, below_drewN HW13.out.2.2 _⟩

end packNoPut
end Go.Proofs.YtmjcpcpcngpdjabDoor
