/- The document's own Reader (lagoonref01): Buffer. -/
import Derived.Test.YtblgipjipeaemaaGreatDoorRefR4J
namespace Go.Proofs.YtblgipjipeaemaaGreatDoor
open Go.RowKit
set_option maxRecDepth 8000

section
variable (g : Nat) (v : Value) (bs : List Int) (p : Nat) (f : Int) (w : World)

set_option maxHeartbeats 2000000 in
theorem qBuffer_any (most : Int) (h : IsQ w g v bs p f) (hb : Byts bs) : Calls Tryz.prog 48 #[.pointer (some ⟨g, 0, none⟩), .int .i64 most] w fun e w' => ∃ u, e = .returned u ∧ Owns w' w.heap.size u (rdBuf most (bs.drop p) f).1 ∧ QTo w g v bs (rdBuf most (bs.drop p) f).2 w' := by
  have c1 := h.c1
  have H : Hid (IsQ w g v bs p f) := h
  have hp := h.2.2.1
  have hl := h.2.2.2.1
  have hdl : (bs.drop p).length = bs.length - p := List.length_drop ..
  have hnum := qInt32_any g v bs p f w h hb
  clear h
  by_cases hok : f = 0 ∧ 4 ≤ (bs.drop p).length
  · have e0 : rdNum 4 (bs.drop p) f = ⟨num ((bs.drop p).take 4), (bs.drop p).drop 4, 0⟩ := by unfold rdNum; rw [if_neg (by simp [hok.1]), if_neg (by omega)]
    rw [e0] at hnum
    have hah : down32 (num ((bs.drop p).take 4)) = ahead (bs.drop p) := rfl
    simp only [hah] at hnum
    have hbd := wrap32_bd (num ((bs.drop p).take 4))
    have hbd' : -2147483648 ≤ ahead (bs.drop p) ∧ ahead (bs.drop p) ≤ 2147483647 := hbd
    have HN : Hid _ := hnum
    have e1 : rdBuf most (bs.drop p) f = if ahead (bs.drop p) < 0 ∨ most < ahead (bs.drop p) then ([], ⟨0, bs.drop p, 11⟩) else if ((bs.drop p).length : Int) - 4 < ahead (bs.drop p) then ([], ⟨0, bs.drop p, 10⟩) else (((bs.drop p).drop 4).take (ahead (bs.drop p)).toNat, ⟨0, ((bs.drop p).drop 4).drop (ahead (bs.drop p)).toNat, 0⟩) := by unfold rdBuf; rw [if_neg (by simp [hok.1]), if_neg (by omega)]
    rw [e1]
    have HP4 : Hid (p + 4 ≤ bs.length) := by show p + 4 ≤ bs.length; omega
    clear hnum e0 e1 hah hbd
    generalize hA : ahead (bs.drop p) = N at *
    have hid : wrap64 N = N := wrap64_id (by omega) (by omega)
    clear hA hok
    by_cases hw : N < 0 ∨ most < N
    · rw [if_pos hw]
      by_cases hw1 : N < 0
      · clear hw
        go_enter Tryz.func48, Tryz.ntmps48
        go_wp2_with fail
        refine Calls.mono HN.out ?_
        rintro e w1 ⟨rfl, p', hp', hq, hk⟩
        have hpe : p' = p + 4 := by
          have h1 := congrArg List.length hp'
          have h2 := hq.2.2.1
          have h3 := HP4.out
          simp only [List.length_drop] at h1
          omega
        subst hpe
        have d0 := hq.c0
        have d1 := hq.c1
        have d2 := hq.c2
        have HQ : Hid (IsQ w1 g v bs (p + 4) 0 ∧ Kept w w1 (· = g)) := ⟨hq, hk⟩
        clear hp' hk hq
        clear d0 d1
        go_wp2_with fail
        refine (qFault_any g v bs (p + 4) 0 _ p 11 HQ.out.1 hp).mono ?_
        rintro e w2 ⟨rfl, h2, hk2⟩
        have HR : Hid (QTo w g v bs ⟨0, bs.drop p, 11⟩ w2) := ⟨p, rfl, h2, HQ.out.2.trans hk2 (fun _ _ h => h)⟩
        clear h2 hk2
        go_wp2
        go_ret
        exact ⟨_, rfl, World.ownsRow_nil _ _ _ _, HR.out⟩
      · have hw2 : most < N := by omega
        clear hw
        go_enter Tryz.func48, Tryz.ntmps48
        go_wp2_with fail
        refine Calls.mono HN.out ?_
        rintro e w1 ⟨rfl, p', hp', hq, hk⟩
        have hpe : p' = p + 4 := by
          have h1 := congrArg List.length hp'
          have h2 := hq.2.2.1
          have h3 := HP4.out
          simp only [List.length_drop] at h1
          omega
        subst hpe
        have d0 := hq.c0
        have d1 := hq.c1
        have d2 := hq.c2
        have HQ : Hid (IsQ w1 g v bs (p + 4) 0 ∧ Kept w w1 (· = g)) := ⟨hq, hk⟩
        clear hp' hk hq
        clear d0 d1
        go_wp2_with fail
        refine (qFault_any g v bs (p + 4) 0 _ p 11 HQ.out.1 hp).mono ?_
        rintro e w2 ⟨rfl, h2, hk2⟩
        have HR : Hid (QTo w g v bs ⟨0, bs.drop p, 11⟩ w2) := ⟨p, rfl, h2, HQ.out.2.trans hk2 (fun _ _ h => h)⟩
        clear h2 hk2
        go_wp2
        go_ret
        exact ⟨_, rfl, World.ownsRow_nil _ _ _ _, HR.out⟩
    · rw [if_neg hw]
      obtain ⟨m, rfl⟩ : ∃ m : Nat, N = (m : Int) := ⟨N.toNat, by omega⟩
      have hw1 : ¬ ((m : Int) < 0) := by omega
      have hw2 : ¬ (most < (m : Int)) := by omega
      clear hw
      obtain ⟨ao, cap, rfl, q1, q2, _, h3⟩ := H.out.2.1
      unfold maxLen at q2
      clear h3
      have hp4 := HP4.out
      by_cases hs : ((bs.drop p).length : Int) - 4 < m
      · rw [if_pos hs]
        have hb1 : decide ((bs.length : Int) - ((p : Int) + 4) < (m : Int)) = true := by simp; omega
        have hb2 : decide ((bs.length : Int) - ((p + 4 : Nat) : Int) < (m : Int)) = true := by simp; omega
        clear hs
        go_enter Tryz.func48, Tryz.ntmps48
        go_wp2_with fail
        refine Calls.mono HN.out ?_
        rintro e w1 ⟨rfl, p', hp', hq, hk⟩
        have hpe : p' = p + 4 := by
          have h1 := congrArg List.length hp'
          have h2 := hq.2.2.1
          have h3 := HP4.out
          simp only [List.length_drop] at h1
          omega
        subst hpe
        have d0 := hq.c0
        have d1 := hq.c1
        have d2 := hq.c2
        have HQ : Hid (IsQ w1 g (.slice ao bs.length cap) bs (p + 4) 0 ∧ Kept w w1 (· = g)) := ⟨hq, hk⟩
        clear hp' hk hq
        go_wp2
        go_quiet (fail)
        go_wp2_with fail
        refine (qFault_any g (.slice ao bs.length cap) bs (p + 4) 0 _ p 10 (HQ.out.1.kept ((Kept.refl w1 (fun _ => False)).drewN nq) (fun h => h) (fun _ _ h => h)) hp).mono ?_
        rintro e w2 ⟨rfl, h2, hk2⟩
        have HR : Hid (QTo w g (.slice ao bs.length cap) bs ⟨0, bs.drop p, 10⟩ w2) := ⟨p, rfl, h2, (HQ.out.2.drewN nq).trans hk2 (fun _ _ h => h)⟩
        clear h2 hk2
        go_wp2
        go_ret
        exact ⟨_, rfl, World.ownsRow_nil _ _ _ _, HR.out⟩
      · rw [if_neg hs]
        have e3 : (bs.drop p).drop 4 = bs.drop (p + 4) := by rw [List.drop_drop]
        rw [e3, Int.toNat_natCast]
        have HPP : Hid (∀ q, q ≤ bs.length → bs.drop q = (bs.drop p).drop 4 → q = p + 4) := fun q h2 hq => by
          have h1 := congrArg List.length hq
          simp only [List.length_drop] at h1
          omega
        have HSP : Hid (p + 4 + m ≤ bs.length) := by show p + 4 + m ≤ bs.length; omega
        clear e3 hs
        generalize hPe : p + 4 = P at *
        have hsp := HSP.out
        have hb1 : decide ((bs.length : Int) - (P : Int) < (m : Int)) = false := by simp; omega
        have hsl := fun w => run_piece ao bs.length cap P m (by omega) (by omega) w
        clear hPe
        go_enter Tryz.func48, Tryz.ntmps48
        go_wp2_with fail
        refine Calls.mono HN.out ?_
        rintro e w1 ⟨rfl, p', hp', hq, hk⟩
        have hpe := HPP.out p' hq.2.2.1 hp'
        subst hpe
        have d0 := hq.c0
        have d1 := hq.c1
        have d2 := hq.c2
        have HQ : Hid (IsQ w1 g (.slice ao bs.length cap) bs p' 0 ∧ Kept w w1 (· = g)) := ⟨hq, hk⟩
        clear hp' hk hq
        go_wp2
        go_quiet (fail)
        go_wp2_with fail
        have r0 : ((w1.drewN nq).drew).cell? ⟨g, 0, none⟩ = some (.slice ao bs.length cap) := d0
        have r1 : ((w1.drewN nq).drew).cell? ⟨g, 1, none⟩ = some (.int .i64 p') := d1
        have HQ1 : Hid (IsQ (w1.drewN nq).drew g (.slice ao bs.length cap) bs p' 0) := HQ.out.1.kept (((Kept.refl w1 (fun _ => False)).drewN nq).drewN 1) (fun h => h) (fun _ _ h => h)
        go_cut [7] from 45 to 60 (fun u wx => (∃ a n c, u = .slice a n c) ∧ Owns wx w1.heap.size u ((bs.drop p').take m) ∧ IsQ wx g (.slice ao bs.length cap) bs p' 0 ∧ Kept w1 wx (fun _ => False))
        case first =>
          go_region_held (fun w' => w'.cell? ⟨g, 0, none⟩ = some (.slice ao bs.length cap) ∧ w'.cell? ⟨g, 1, none⟩ = some (.int .i64 p')) (first | exact ⟨r0, r1⟩ | exact ⟨t0, t1⟩)
            (first | (go_at_call 10; refine (copyBytes_any _ ((bs.drop p').take m) _ (sees_piece HQ1.out.2.1 HSP.out) ?_).mono ?_; (rw [List.length_take]; omega); rintro e w3 ⟨u, rfl, ho3, hb3⟩; have HQ3 : Hid (Owns w3 w1.heap.size u ((bs.drop p').take m) ∧ IsQ w3 g (.slice ao bs.length cap) bs p' 0 ∧ Kept w1 w3 (fun _ => False)) := ⟨ho3, HQ1.out.kept (news hb3) (fun h => h) (fun _ _ h => h), (((Kept.refl w1 (fun _ => False)).drewN nq).drewN 1).trans (news hb3) (fun _ _ h => h)⟩; have t0 := HQ3.out.2.1.c0; have t1 := HQ3.out.2.1.c1; obtain ⟨ua, un, uc, rfl⟩ := owns_shape ho3; clear ho3 hb3))
          all_goals (go_wp2_with fail)
          all_goals go_meet
          all_goals exact ⟨⟨_, _, _, rfl⟩, HQ3.out⟩
        case rest =>
          obtain ⟨⟨ua, un, uc, rfl⟩, ho, hq, hk⟩ := hcut
          have b1 := hq.c1
          have bf := hq.fr 1
          have e : (p' : Int) + (m : Int) = ((p' + m : Nat) : Int) := by omega
          have HR : Hid (Owns (wc.setCell ⟨g, 1, none⟩ (.int .i64 ((p' : Int) + (m : Int)))) w.heap.size (.slice ua un uc) ((bs.drop p').take m) ∧ QTo w g (.slice ao bs.length cap) bs ⟨0, (bs.drop p').drop m, 0⟩ (wc.setCell ⟨g, 1, none⟩ (.int .i64 ((p' : Int) + (m : Int))))) := by
            have hks : Kept wc (wc.setCell ⟨g, 1, none⟩ (.int .i64 ((p' : Int) + (m : Int)))) (fun x => x = g) := (Kept.refl wc (fun x => x = g)).setCell ⟨g, 1, none⟩ _ (fun _ => rfl)
            refine ⟨owns_mono (Owns.kept ho hks (fun k hk' e' => ?_)) HQ.out.2.size, p' + m, by rw [List.drop_drop], ?_, (HQ.out.2.trans hk (fun _ _ h => h.elim)).trans hks (fun _ _ h => h)⟩
            · subst e'
              have h1 := (ho.lt k hk').1
              have h2 := lt_of_block HQ.out.1.1
              omega
            · rw [e]; exact hq.set1 HSP.out
          clear ho hq hk e
          go_wp2
          go_ret
          exact ⟨_, rfl, HR.out⟩
  · have e0 : ∃ fo, fo ≠ 0 ∧ rdNum 4 (bs.drop p) f = ⟨0, bs.drop p, fo⟩ ∧ rdBuf most (bs.drop p) f = ([], ⟨0, bs.drop p, fo⟩) := by
      unfold rdNum rdBuf
      by_cases hf : f ≠ 0
      · exact ⟨f, hf, by rw [if_pos hf], by rw [if_pos hf]⟩
      · rw [if_neg hf, if_neg hf]
        have hl4 : (bs.drop p).length < 4 := by
          have hf' : f = 0 := by simpa using hf
          have := fun h => hok ⟨hf', h⟩
          omega
        exact ⟨10, by decide, by rw [if_pos hl4], by rw [if_pos hl4]⟩
    obtain ⟨fo, hfo, e0, e1⟩ := e0
    rw [e0] at hnum
    rw [e1]
    have HN : Hid _ := hnum
    have hfo' : (fo != 0) = true := by simp [hfo]
    have hd0 : down32 0 = 0 := by rw [down32_is 0 (by omega) (by omega)]; rfl
    clear hnum e0 e1 hok hfo
    go_enter Tryz.func48, Tryz.ntmps48
    go_wp2_with fail
    refine Calls.mono HN.out ?_
    rintro e w1 ⟨rfl, hq⟩
    have HQ : Hid (QTo w g v bs ⟨0, bs.drop p, fo⟩ w1) := hq
    have d2 : w1.cell? ⟨g, 2, none⟩ = some (.int .i64 fo) := by obtain ⟨q, _, h2, _⟩ := hq; exact h2.c2
    clear hq
    go_wp2
    go_ret
    exact ⟨_, rfl, World.ownsRow_nil _ _ _ _, HQ.out⟩

end
end Go.Proofs.YtblgipjipeaemaaGreatDoor
