/- What CopyBytes of lagoonref00 answers: the same bytes in a row of its own. -/
import Derived.Test.YtdhdmfibdgepfaaProg
import Derived.Test.YtdhdmfibdgepfaaBase
namespace Go.Proofs.Ytdhdmfibdgepfaa
open Go.RowKit
set_option maxRecDepth 8000

theorem Try.infoByte : (Try.prog.info? 5).map (fun i => (i.zero, i.size, i.bytes)) = some (some (.int .u8 0), 1, 1) := by kernel_rfl

/-- One round of an append of one byte: what is owned, and that old memory stays. -/
theorem app_rel {B : Nat} {w wr w1 : World} {v v' : Value} {xs : List Int} {x : Int} (hBw : B ≤ wr.heap.size) (hown : Owns wr B v xs) (hbel : Below B w wr) {o : Obj}
    (hown' : w1.ownsRow B 5 1 v' (xs.length + 1) (xs.map (Value.int .u8) ++ [.int .u8 x])) (hgrow : (wr.alloc o).grownBy w1 v.ownBlock) :
    Owns w1 B v' (xs ++ [x]) ∧ Below B w w1 ∧ B ≤ w1.heap.size := by
  refine ⟨by simpa [Owns] using hown', ?_, ?_⟩
  · exact ((hbel.alloc hBw o).grown hgrow (by simp; omega) (fun k hk => (hown.lt k hk).1))
  · have := hgrow.size; simp at this; omega

set_option maxHeartbeats 400000 in
theorem copyBytes_any (v : Value) (xs : List Int) (w : World) (h : Sees w v xs) (hreach : xs.length ≤ 70000000000000) :
    Calls Try.prog 10 #[v] w fun e w' => ∃ v', e = .returned v' ∧ Owns w' w.heap.size v' xs ∧ Below w.heap.size w w' := by
  obtain ⟨ao, cap, rfl, hlc, hcm, _, h3⟩ := h
  unfold maxLen at hcm
  obtain ⟨i0, hi, hz0, hz1, hz2⟩ := info_parts Try.infoByte
  go_enter Try.func10, Try.ntmps10
  go_wp2
  go_loopw [3, 4] (fun v i wr => ∃ k : Nat, k ≤ xs.length ∧ i = .int .i64 k ∧ Owns wr w.heap.size v (xs.take k) ∧ Below w.heap.size w wr) (fun _ i _ => xs.length - (intOf i).toNat)
  case atStart => exact ⟨0, Nat.zero_le _, rfl, World.ownsRow_nil _ _ _ _, Below.refl _ _⟩
  case round =>
    obtain ⟨k, hk, rfl, hown, hbel⟩ := hrel
    by_cases hlt : k < xs.length
    · rcases h3 with h3 | ⟨b, off, rfl, h3⟩
      · subst h3; simp at hlt
      · have hc := cell_later (h3 k hlt) hbel (Nat.le_refl _)
        have HN : Hid _ := take_next xs k hlt
        have hlen : (xs.take k).length = k := by simp; omega
        have HL : Hid _ := hlen
        clear hlen h3
        generalize xs.getD k 0 = x at *
        generalize xs.take k = ys at *
        have hsz := hbel.size
        go_wp2_with (at_builtin; refine wpList_append_own _ rfl _ _ 30 rfl w.heap.size 5 i0 (.int .u8 0) 1 1 Try.underlying30 hi hz0 hz1 hz2 rfl (by decide) _ _ _ rfl (hown.alloc _) ⟨wr.heap.size, 0, none⟩ 1 1 [.int .u8 x] rfl rfl ?c1 ?c2 ?c3 ?c4 ?c5 ?_)
        case c1 =>
          intro j u hj
          match j, hj with
          | 0, hj => simp at hj; subst hj; simp [Addr.add]
        case c2 => intro u hu; simp at hu; subst hu; rfl
        case c3 => have := HL.out; unfold maxLen; omega
        case c4 => have := HL.out; omega
        case c5 => simp; omega
        intro v' w1 hown' hgrow _
        have R := app_rel hsz hown hbel hown' hgrow
        clear hown' hgrow hown hc
        go_wp2
        go_roundw
        case rel => exact ⟨k + 1, by omega, by go_num, by rw [HN.out]; exact R.1, R.2.1⟩
        case measure => simp [intOf]; omega
    · obtain rfl : k = xs.length := by omega
      rw [List.take_length] at hown
      go_wp2
      go_ret
      exact ⟨_, rfl, hown, hbel⟩

theorem made_owns {w : World} {g n : Nat} (h : w.ownsRow g 5 1 (.slice (some ⟨g, 0, none⟩) n n) n (madeCells #[Value.int .u8 0] n).toList) : Owns w g (.slice (some ⟨g, 0, none⟩) (List.replicate n (0 : Int)).length n) (List.replicate n 0) := by
  have e : (madeCells #[Value.int .u8 0] n).toList = (List.replicate n (0 : Int)).map (Value.int .u8) := by
    rw [toList_madeCells_one]; simp
  rw [e] at h
  simpa [Owns] using h

end Go.Proofs.Ytdhdmfibdgepfaa
