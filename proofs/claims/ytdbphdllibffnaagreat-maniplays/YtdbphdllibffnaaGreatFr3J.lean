/- What frame.first answers: the body of the frame that stands whole at the beginning, as a part of what is handed in. -/
import Derived.Test.YtdbphdllibffnaaGreatMaAJ
import Derived.BigQuiet
import Derived.Deep.RegionHeld
namespace Go.Proofs.YtdbphdllibffnaaGreat
open Go.RowKit
set_option maxRecDepth 8000

theorem sees_cut {w : World} {b off cap i j : Nat} {xs : List Int} (h : Sees w (.slice (some ⟨b, off, none⟩) xs.length cap) xs) (hij : i ≤ j) (hj : j ≤ xs.length) :
    Sees w (.slice (some ⟨b, off + i, none⟩) (j - i) (cap - i)) ((xs.drop i).take (j - i)) := by
  obtain ⟨ao', cap', e, g1, g2, _, g3⟩ := h
  simp at e
  obtain ⟨rfl, rfl⟩ := e
  have hl : ((xs.drop i).take (j - i)).length = j - i := by simp; omega
  refine ⟨_, cap - i, by rw [hl], by omega, by omega, fun e => by simp at e, ?_⟩
  rcases g3 with g3 | ⟨b', off', e, g3⟩
  · exact .inl (by rw [g3]; simp)
  · simp at e
    obtain ⟨rfl, rfl⟩ := e
    refine .inr ⟨b, off + i, rfl, fun k hk => ?_⟩
    rw [hl] at hk
    rw [Nat.add_assoc, g3 (i + k) (by omega)]
    simp [List.getD_eq_getElem?_getD, hk]

theorem sees_some {w : World} {v : Value} {xs : List Int} (h : Sees w v xs) (hx : xs ≠ []) : ∃ b off cap, v = .slice (some ⟨b, off, none⟩) xs.length cap ∧ xs.length ≤ cap ∧ cap ≤ maxLen ∧ b < w.heap.size ∧ ∀ i, i < xs.length → w.cell? ⟨b, off + i, none⟩ = some (.int .u8 (xs.getD i 0)) := by
  have hlt := h.lt hx
  obtain ⟨ao, cap, rfl, g1, g2, _, g3⟩ := h
  rcases g3 with g3 | ⟨b, off, rfl, g3⟩
  · exact absurd g3 hx
  · exact ⟨b, off, cap, rfl, g1, g2, hlt b rfl, g3⟩

theorem below_drew {B : Nat} {w w' : World} (h : Below B w w') (n : Nat) : Below B w (w'.drewN n) := h.trans ⟨rfl, rfl, rfl, Nat.le_refl _, fun _ _ => rfl⟩

theorem below_low {B : Nat} {w w' : World} (h : Below w.heap.size w w') (hB : B ≤ w.heap.size) : Below B w w' := ⟨h.os, h.tape, h.output, h.size, fun k hk => h.block k (by omega)⟩

theorem take8 (xs : List Int) (h : 8 ≤ xs.length) : xs.take 8 = [xs.getD 0 0, xs.getD 1 0, xs.getD 2 0, xs.getD 3 0, xs.getD 4 0, xs.getD 5 0, xs.getD 6 0, xs.getD 7 0] := by
  match xs, h with
  | a :: b :: c :: d :: e :: f :: g :: i :: t, _ => simp

/-- The cut that first answers. -/
def bodyV (v : Value) (n : Nat) : Value := if n = 0 then .slice none 0 0 else match v with
  | .slice (some ⟨b, off, _⟩) _ c => .slice (some ⟨b, off + 8, none⟩) n (c - 8)
  | _ => .slice none 0 0

set_option maxHeartbeats 1000000 in
theorem first_any (v : Value) (xs : List Int) (w : World) (h : Sees w v xs) (hb : Byts xs) (hl : xs.length ≤ 140737488355328) :
    Calls Tryz.prog 83 #[v] w fun e w' => e = .returned (bodyV v (bodyLen xs)) ∧ Below w.heap.size w w' := by
  by_cases h9 : xs.length < 9
  · have e0 : bodyLen xs = 0 := by unfold bodyLen; rw [if_pos h9]
    rw [e0]
    clear e0
    obtain ⟨ao, cap, rfl, g1, g2, g0, g3⟩ := h
    clear g3 g0 hb
    unfold maxLen at g2
    go_enter Tryz.func83, Tryz.ntmps83
    go_wp2
    go_ret
    exact ⟨rfl, Below.refl _ _⟩
  · have hx : xs ≠ [] := fun e => by rw [e] at h9; simp at h9
    obtain ⟨b, off, cap, rfl, g1, g2, hbw, g3⟩ := sees_some h hx
    have hn := num_bd xs hb 4 (by omega)
    rw [show (256 : Int) ^ 4 = 4294967296 from by decide] at hn
    have hb4 : Byts (xs.take 4) := hb.take 4
    have e4 : rdNum 4 (xs.take 4) 0 = ⟨num (xs.take 4), [], 0⟩ := by
      unfold rdNum
      rw [if_neg (by simp), if_neg (by simp; omega), List.take_take, List.drop_take]; simp
    have s4 : Sees w (.slice (some ⟨b, off, none⟩) 4 cap) (xs.take 4) := by
      have := sees_cut h (i := 0) (j := 4) (by omega) (by omega)
      simpa using this
    have hL : xs.take 4 = xs.take 4 := rfl
    have HL : Hid ((xs.take 4).length ≤ 140737488355328) := by show (xs.take 4).length ≤ _; simp; omega
    obtain ⟨n, hnn⟩ : ∃ n : Nat, num (xs.take 4) = (n : Int) := ⟨(num (xs.take 4)).toNat, by omega⟩
    have H : Hid (Sees w (.slice (some ⟨b, off, none⟩) xs.length cap) xs ∧ Byts xs ∧ Byts (xs.take 4) ∧ rdNum 4 (xs.take 4) 0 = ⟨n, [], 0⟩ ∧ Sees w (.slice (some ⟨b, off, none⟩) 4 cap) (xs.take 4)) := ⟨h, hb, hb4, by rw [e4, hnn], s4⟩
    have HG : Hid (∀ i, i < xs.length → w.cell? ⟨b, off + i, none⟩ = some (.int .u8 (xs.getD i 0))) := g3
    have hn4 : n < 4294967296 := by omega
    clear h hb hb4 e4 s4 hL g3
    unfold maxLen at g2
    by_cases c1 : xs.length - 9 < n
    · have e0 : bodyLen xs = 0 := by
        unfold bodyLen; rw [if_neg h9]; simp only; rw [if_pos (.inl (by omega))]
      rw [e0]
      clear e0 hnn hn HG
      have d1 : decide ((xs.length : Int) - 9 < n) = true := by simp; omega
      go_enter Tryz.func83, Tryz.ntmps83
      go_wp2_with fail
      refine (new_any _ (xs.take 4) _ H.out.2.2.2.2 HL.out).mono ?_
      rintro e w1 ⟨gr, vr, rfl, r1, r2, r3, r4⟩
      have H1 : Hid (IsR w1 gr vr (xs.take 4) 0 ∧ w.heap.size ≤ gr ∧ Below w.heap.size w w1) := ⟨r1, r2, r4⟩
      clear r1 r2 r3 r4
      go_wp2_with fail
      refine (rUint32_any gr vr (xs.take 4) 0 _ H1.out.1 H.out.2.2.1).mono ?_
      rw [H.out.2.2.2.1]
      rintro e w2 ⟨rfl, v2, q1, q2, q3⟩
      have H2 : Hid (Below w.heap.size w w2) := H1.out.2.2.trans (below_reader q3 H1.out.2.2.size H1.out.2.1)
      clear q1 q2 q3
      go_wp2
      go_ret
      exact ⟨rfl, H2.out⟩
    · have d1 : decide ((xs.length : Int) - 9 < n) = false := by simp; omega
      by_cases c2 : isSz n = true
      · obtain ⟨m, hm⟩ : ∃ m, m = xs.getD (8 + n) 0 := ⟨_, rfl⟩
        have gm : w.cell? ⟨b, off + (8 + n), none⟩ = some (.int .u8 m) := by rw [hm]; exact HG.out (8 + n) (by omega)
        by_cases c3 : m = 66
        · have hl8 : 8 ≤ xs.length := by omega
          have ht8 := take8 xs hl8
          have HC : Hid (∀ wx, Below w.heap.size w wx → wx.cell? ⟨b, off + (8 + n), none⟩ = some (.int .u8 66) ∧ wx.cell? ⟨b, off, none⟩ = some (.int .u8 (xs.getD 0 0)) ∧ wx.cell? ⟨b, off + 1, none⟩ = some (.int .u8 (xs.getD 1 0)) ∧ wx.cell? ⟨b, off + 2, none⟩ = some (.int .u8 (xs.getD 2 0)) ∧ wx.cell? ⟨b, off + 3, none⟩ = some (.int .u8 (xs.getD 3 0)) ∧ wx.cell? ⟨b, off + 4, none⟩ = some (.int .u8 (xs.getD 4 0)) ∧ wx.cell? ⟨b, off + 5, none⟩ = some (.int .u8 (xs.getD 5 0)) ∧ wx.cell? ⟨b, off + 6, none⟩ = some (.int .u8 (xs.getD 6 0)) ∧ wx.cell? ⟨b, off + 7, none⟩ = some (.int .u8 (xs.getD 7 0))) := fun wx hbx =>
            ⟨cell_later (by rw [← c3]; exact gm) hbx (Nat.le_refl _), cell_later (HG.out 0 (by omega)) hbx (Nat.le_refl _), cell_later (HG.out 1 (by omega)) hbx (Nat.le_refl _), cell_later (HG.out 2 (by omega)) hbx (Nat.le_refl _), cell_later (HG.out 3 (by omega)) hbx (Nat.le_refl _), cell_later (HG.out 4 (by omega)) hbx (Nat.le_refl _), cell_later (HG.out 5 (by omega)) hbx (Nat.le_refl _), cell_later (HG.out 6 (by omega)) hbx (Nat.le_refl _), cell_later (HG.out 7 (by omega)) hbx (Nat.le_refl _)⟩
          have h88 : 8 + n - 8 = n := by omega
          have hsc := sees_cut H.out.1 (i := 8) (j := 8 + n) (by omega) (by omega)
          rw [h88] at hsc
          obtain ⟨ys, hys⟩ : ∃ ys, ys = (xs.drop 8).take n := ⟨_, rfl⟩
          rw [← hys] at hsc
          have hyb : Byts ys := by rw [hys]; exact (H.out.2.1.drop 8).take n
          have hyl : ys.length < 4294967296 := by rw [hys]; simp; omega
          obtain ⟨b0, b1, b2, b3, b4, b5, b6, b7, hh⟩ := eight ys
          have HH : Hid (∀ wx, Sees wx (.slice (some ⟨b, off + 8, none⟩) n (cap - 8)) ys → Calls Tryz.prog 76 #[.slice (some ⟨b, off + 8, none⟩) n (cap - 8)] wx fun e w' => e = .returned (.agg #[.int .u8 b0, .int .u8 b1, .int .u8 b2, .int .u8 b3, .int .u8 b4, .int .u8 b5, .int .u8 b6, .int .u8 b7]) ∧ Below wx.heap.size wx w') := fun wx hs => by
            have := head_any _ ys wx hs hyb hyl
            unfold headV at this
            rw [hh] at this
            exact this
          have HSC : Hid (Sees w (.slice (some ⟨b, off + 8, none⟩) n (cap - 8)) ys) := hsc
          generalize xs.getD 0 0 = a0 at *
          generalize xs.getD 1 0 = a1 at *
          generalize xs.getD 2 0 = a2 at *
          generalize xs.getD 3 0 = a3 at *
          generalize xs.getD 4 0 = a4 at *
          generalize xs.getD 5 0 = a5 at *
          generalize xs.getD 6 0 = a6 at *
          generalize xs.getD 7 0 = a7 at *
          have hat : ∀ w, (Instr.arrayAt 109 (.slice (some ⟨b, off, none⟩) xs.length cap)).run Tryz.prog w = .ok (.pointer (some ⟨b, off, none⟩)) w := fun w => run_arrayAt w 109 _ 8 _ xs.length cap Tryz.underlying109 hl8
          have e8 : IntKind.i64.wrap (8 + (n : Int)) = ((8 + n : Nat) : Int) := by simp [IntKind.wrap, IntKind.bits, IntKind.signed]; omega
          have i8 : 8 + n < xs.length := by omega
          have i9 : 8 + (n : Int) < xs.length := by omega
          have hm8 : Tryz.prog.eqGuardType Tryz.prog.depth 109 = false := by kernel_rfl
          have hne : ∀ w, (binOp .neq 109 (.agg #[.int .u8 a0, .int .u8 a1, .int .u8 a2, .int .u8 a3, .int .u8 a4, .int .u8 a5, .int .u8 a6, .int .u8 a7]) (.agg #[.int .u8 b0, .int .u8 b1, .int .u8 b2, .int .u8 b3, .int .u8 b4, .int .u8 b5, .int .u8 b6, .int .u8 b7])).run Tryz.prog w = .ok (.bool (!decide (xs.take 8 = headL ys))) w := fun w => by
            have := run_neq8 [a0, a1, a2, a3, a4, a5, a6, a7] [b0, b1, b2, b3, b4, b5, b6, b7] rfl rfl w
            rw [ht8, hh]
            exact this
          have e1 : bodyLen xs = if xs.take 8 = headL ys then n else 0 := by
            unfold bodyLen; rw [if_neg h9]; simp only; rw [if_neg (by rw [hnn, c2]; simp; omega), hnn]; simp only [Int.toNat_natCast]
            rw [← hm, ← hys]
            by_cases hq : xs.take 8 = headL ys
            · rw [if_neg (by simp [c3, hq]), if_pos hq]
            · rw [if_pos (.inr hq), if_neg hq]
          rw [e1]
          have n1 : n ≠ 0 := by intro e; rw [e] at c2; simp [isSz] at c2
          clear e1 hnn hn HG hm ht8 hsc hyb hyl hh gm hys
          subst c3
          obtain ⟨Q, hQ⟩ : ∃ Q : Bool, Q = decide (xs.take 8 = headL ys) := ⟨_, rfl⟩
          have hif : (if xs.take 8 = headL ys then n else 0) = if Q = true then n else 0 := by rw [hQ]; simp
          rw [hif]
          rw [← hQ] at hne
          clear hif hQ
          cases Q
          · have hfal : (if false = true then n else 0) = 0 := rfl
            rw [hfal]
            clear hfal
            go_enter Tryz.func83, Tryz.ntmps83
            go_wp2_with fail
            refine (new_any _ (xs.take 4) _ H.out.2.2.2.2 HL.out).mono ?_
            rintro e w1 ⟨gr, vr, rfl, r1, r2, r3, r4⟩
            have H1 : Hid (IsR w1 gr vr (xs.take 4) 0 ∧ w.heap.size ≤ gr ∧ Below w.heap.size w w1) := ⟨r1, r2, r4⟩
            clear r1 r2 r3 r4
            go_wp2_with fail
            refine (rUint32_any gr vr (xs.take 4) 0 _ H1.out.1 H.out.2.2.1).mono ?_
            rw [H.out.2.2.2.1]
            rintro e w2 ⟨rfl, v2, q1, q2, q3⟩
            have H2 : Hid (Below w.heap.size w w2) := H1.out.2.2.trans (below_reader q3 H1.out.2.2.size H1.out.2.1)
            clear q1 q2 q3
            go_wp2_with fail
            refine (isSize_any n _).mono ?_
            rw [c2]
            rintro e w3 ⟨rfl, rfl⟩
            have HK : Hid (Below w.heap.size w w3.drew) := H2.out.trans ⟨rfl, rfl, rfl, Nat.le_refl _, fun _ _ => rfl⟩
            obtain ⟨t8, t0, t1, t2, t3, t4, t5, t6, t7⟩ := HC.out w3.drew HK.out
            go_wp2
            go_region_held (fun w' => w'.cell? ⟨b, off + (8 + n), none⟩ = some (.int .u8 66) ∧ w'.cell? ⟨b, off, none⟩ = some (.int .u8 a0) ∧ w'.cell? ⟨b, off + 1, none⟩ = some (.int .u8 a1) ∧ w'.cell? ⟨b, off + 2, none⟩ = some (.int .u8 a2) ∧ w'.cell? ⟨b, off + 3, none⟩ = some (.int .u8 a3) ∧ w'.cell? ⟨b, off + 4, none⟩ = some (.int .u8 a4) ∧ w'.cell? ⟨b, off + 5, none⟩ = some (.int .u8 a5) ∧ w'.cell? ⟨b, off + 6, none⟩ = some (.int .u8 a6) ∧ w'.cell? ⟨b, off + 7, none⟩ = some (.int .u8 a7)) (first | exact ⟨t8, t0, t1, t2, t3, t4, t5, t6, t7⟩ | exact ⟨u8, u0, u1, u2, u3, u4, u5, u6, u7⟩)
              (first | (go_at_call 76; refine (HH.out _ (HSC.out.below HK.out (Nat.le_refl _))).mono ?_; rintro e w4 ⟨rfl, hb4⟩; have H4 : Hid (Below w.heap.size w w4) := HK.out.trans (below_low hb4 HK.out.size); obtain ⟨u8, u0, u1, u2, u3, u4, u5, u6, u7⟩ := HC.out w4 H4.out; clear hb4))
            all_goals go_wp2
            all_goals go_ret
            all_goals exact ⟨rfl, H4.out⟩
          · have hbv : bodyV (.slice (some ⟨b, off, none⟩) xs.length cap) (if true = true then n else 0) = .slice (some ⟨b, off + 8, none⟩) n (cap - 8) := by unfold bodyV; simp [n1]
            rw [hbv]
            clear hbv
            go_enter Tryz.func83, Tryz.ntmps83
            go_wp2_with fail
            refine (new_any _ (xs.take 4) _ H.out.2.2.2.2 HL.out).mono ?_
            rintro e w1 ⟨gr, vr, rfl, r1, r2, r3, r4⟩
            have H1 : Hid (IsR w1 gr vr (xs.take 4) 0 ∧ w.heap.size ≤ gr ∧ Below w.heap.size w w1) := ⟨r1, r2, r4⟩
            clear r1 r2 r3 r4
            go_wp2_with fail
            refine (rUint32_any gr vr (xs.take 4) 0 _ H1.out.1 H.out.2.2.1).mono ?_
            rw [H.out.2.2.2.1]
            rintro e w2 ⟨rfl, v2, q1, q2, q3⟩
            have H2 : Hid (Below w.heap.size w w2) := H1.out.2.2.trans (below_reader q3 H1.out.2.2.size H1.out.2.1)
            clear q1 q2 q3
            go_wp2_with fail
            refine (isSize_any n _).mono ?_
            rw [c2]
            rintro e w3 ⟨rfl, rfl⟩
            have HK : Hid (Below w.heap.size w w3.drew) := H2.out.trans ⟨rfl, rfl, rfl, Nat.le_refl _, fun _ _ => rfl⟩
            obtain ⟨t8, t0, t1, t2, t3, t4, t5, t6, t7⟩ := HC.out w3.drew HK.out
            go_wp2
            go_region_held (fun w' => w'.cell? ⟨b, off + (8 + n), none⟩ = some (.int .u8 66) ∧ w'.cell? ⟨b, off, none⟩ = some (.int .u8 a0) ∧ w'.cell? ⟨b, off + 1, none⟩ = some (.int .u8 a1) ∧ w'.cell? ⟨b, off + 2, none⟩ = some (.int .u8 a2) ∧ w'.cell? ⟨b, off + 3, none⟩ = some (.int .u8 a3) ∧ w'.cell? ⟨b, off + 4, none⟩ = some (.int .u8 a4) ∧ w'.cell? ⟨b, off + 5, none⟩ = some (.int .u8 a5) ∧ w'.cell? ⟨b, off + 6, none⟩ = some (.int .u8 a6) ∧ w'.cell? ⟨b, off + 7, none⟩ = some (.int .u8 a7)) (first | exact ⟨t8, t0, t1, t2, t3, t4, t5, t6, t7⟩ | exact ⟨u8, u0, u1, u2, u3, u4, u5, u6, u7⟩)
              (first | (go_at_call 76; refine (HH.out _ (HSC.out.below HK.out (Nat.le_refl _))).mono ?_; rintro e w4 ⟨rfl, hb4⟩; have H4 : Hid (Below w.heap.size w w4) := HK.out.trans (below_low hb4 HK.out.size); obtain ⟨u8, u0, u1, u2, u3, u4, u5, u6, u7⟩ := HC.out w4 H4.out; clear hb4))
            all_goals go_wp2
            all_goals go_ret
            all_goals exact ⟨rfl, H4.out⟩
        · have e0 : bodyLen xs = 0 := by
            unfold bodyLen; rw [if_neg h9]; simp only; rw [if_neg (by rw [hnn, c2]; simp; omega), if_pos (.inl (by rw [hnn]; simp only [Int.toNat_natCast]; rw [← hm]; exact c3))]
          rw [e0]
          clear e0 hnn hn HG
          have d3 : (m != 66) = true := by simp [c3]
          have HM : Hid (w.cell? ⟨b, off + (8 + n), none⟩ = some (.int .u8 m)) := gm
          clear gm hm
          go_enter Tryz.func83, Tryz.ntmps83
          go_wp2_with fail
          refine (new_any _ (xs.take 4) _ H.out.2.2.2.2 HL.out).mono ?_
          rintro e w1 ⟨gr, vr, rfl, r1, r2, r3, r4⟩
          have H1 : Hid (IsR w1 gr vr (xs.take 4) 0 ∧ w.heap.size ≤ gr ∧ Below w.heap.size w w1) := ⟨r1, r2, r4⟩
          clear r1 r2 r3 r4
          go_wp2_with fail
          refine (rUint32_any gr vr (xs.take 4) 0 _ H1.out.1 H.out.2.2.1).mono ?_
          rw [H.out.2.2.2.1]
          rintro e w2 ⟨rfl, v2, q1, q2, q3⟩
          have H2 : Hid (Below w.heap.size w w2) := H1.out.2.2.trans (below_reader q3 H1.out.2.2.size H1.out.2.1)
          clear q1 q2 q3
          go_wp2_with fail
          refine (isSize_any n _).mono ?_
          rw [c2]
          rintro e w3 ⟨rfl, rfl⟩
          have gm : w3.cell? ⟨b, off + (8 + n), none⟩ = some (.int .u8 m) := cell_later HM.out H2.out (Nat.le_refl _)
          go_wp2
          go_quiet (fail)
          all_goals go_wp2
          all_goals go_ret
          all_goals exact ⟨rfl, below_drew H2.out _⟩
      · have e0 : bodyLen xs = 0 := by
          unfold bodyLen; rw [if_neg h9]; simp only; rw [if_pos (.inr (by rw [hnn]; simpa using c2))]
        have c2' : isSz n = false := by simpa using c2
        rw [e0]
        clear e0 hnn hn HG c2
        go_enter Tryz.func83, Tryz.ntmps83
        go_wp2_with fail
        refine (new_any _ (xs.take 4) _ H.out.2.2.2.2 HL.out).mono ?_
        rintro e w1 ⟨gr, vr, rfl, r1, r2, r3, r4⟩
        have H1 : Hid (IsR w1 gr vr (xs.take 4) 0 ∧ w.heap.size ≤ gr ∧ Below w.heap.size w w1) := ⟨r1, r2, r4⟩
        clear r1 r2 r3 r4
        go_wp2_with fail
        refine (rUint32_any gr vr (xs.take 4) 0 _ H1.out.1 H.out.2.2.1).mono ?_
        rw [H.out.2.2.2.1]
        rintro e w2 ⟨rfl, v2, q1, q2, q3⟩
        have H2 : Hid (Below w.heap.size w w2) := H1.out.2.2.trans (below_reader q3 H1.out.2.2.size H1.out.2.1)
        clear q1 q2 q3
        go_wp2_with fail
        refine (isSize_any n _).mono ?_
        rw [c2']
        rintro e w3 ⟨rfl, rfl⟩
        go_wp2
        go_ret
        exact ⟨rfl, H2.out⟩

end Go.Proofs.YtdbphdllibffnaaGreat
