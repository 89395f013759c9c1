/- The document's own Reader (lagoonref01): New, Count, Text. -/
import Derived.Test.YtickndnaejdanaaGreatDoorRefR5J
import Derived.Test.YtickndnaejdanaaGreatDoorGtAJ
import Derived.Test.YtickndnaejdanaaGreatDoorReaderMoreJ
namespace Go.Proofs.YtickndnaejdanaaGreatDoor
open Go.RowKit
set_option maxRecDepth 8000

section
variable (g : Nat) (v : Value) (bs : List Int) (p : Nat) (f : Int) (w : World)

set_option maxHeartbeats 2000000 in
theorem qCount_any (most : Int) (h : IsQ w g v bs p f) (hb : Byts bs) : Calls Tryz.prog 10 #[.pointer (some ⟨g, 0, none⟩), .int .i64 most] w fun e w' => e = .returned (.int .i64 (rdCnt most (bs.drop p) f).out) ∧ QTo w g v bs (rdCnt most (bs.drop p) f) w' := by
  have c1 := h.c1
  have H : Hid (IsQ w g v bs p f) := h
  have hp := h.2.2.1
  have hl := h.2.2.2.1
  have hdl : (bs.drop p).length = bs.length - p := List.length_drop ..
  have hnum := qInt32_any g v bs p f w h hb
  clear h
  by_cases hok : f = 0 ∧ 4 ≤ (bs.drop p).length
  · have e0 : rdNum 4 (bs.drop p) f = ⟨num ((bs.drop p).take 4), (bs.drop p).drop 4, 0⟩ := by unfold rdNum; rw [if_neg (by simp [hok.1]), if_neg (by omega)]
    rw [e0] at hnum
    have hah : down32 (num ((bs.drop p).take 4)) = ahead (bs.drop p) := rfl
    simp only [hah] at hnum
    have hbd := wrap32_bd (num ((bs.drop p).take 4))
    have hbd' : -2147483648 ≤ ahead (bs.drop p) ∧ ahead (bs.drop p) ≤ 2147483647 := hbd
    have HN : Hid _ := hnum
    have e1 : rdCnt most (bs.drop p) f = if ahead (bs.drop p) < 0 ∨ most < ahead (bs.drop p) then ⟨-1, bs.drop p, 11⟩ else if ((bs.drop p).length : Int) - 4 < ahead (bs.drop p) then ⟨-1, bs.drop p, 10⟩ else ⟨ahead (bs.drop p), (bs.drop p).drop 4, 0⟩ := by unfold rdCnt; rw [if_neg (by simp [hok.1]), if_neg (by omega)]
    rw [e1]
    have HP4 : Hid (p + 4 ≤ bs.length) := by show p + 4 ≤ bs.length; omega
    clear hnum e0 e1 hah hbd
    generalize hA : ahead (bs.drop p) = N at *
    have hid : wrap64 N = N := wrap64_id (by omega) (by omega)
    clear hA hok
    by_cases hw : N < 0 ∨ most < N
    · rw [if_pos hw]
      by_cases hw1 : N < 0
      · clear hw
        go_enter Tryz.func10, Tryz.ntmps10
        go_wp2_with fail
        refine Calls.mono HN.out ?_
        rintro e w1 ⟨rfl, p', hp', hq, hk⟩
        have hpe : p' = p + 4 := by
          have h1 := congrArg List.length hp'
          have h2 := hq.2.2.1
          have h3 := HP4.out
          simp only [List.length_drop] at h1
          omega
        subst hpe
        have d0 := hq.c0
        have d1 := hq.c1
        have d2 := hq.c2
        have HQ : Hid (IsQ w1 g v bs (p + 4) 0 ∧ Kept w w1 (· = g)) := ⟨hq, hk⟩
        clear hp' hk hq
        clear d0 d1
        go_wp2_with fail
        refine (qFault_any g v bs (p + 4) 0 _ p 11 HQ.out.1 hp).mono ?_
        rintro e w2 ⟨rfl, h2, hk2⟩
        have HR : Hid (QTo w g v bs ⟨-1, bs.drop p, 11⟩ w2) := ⟨p, rfl, h2, HQ.out.2.trans hk2 (fun _ _ h => h)⟩
        clear h2 hk2
        go_wp2
        go_ret
        exact ⟨rfl, HR.out⟩
      · have hw2 : most < N := by omega
        clear hw
        go_enter Tryz.func10, Tryz.ntmps10
        go_wp2_with fail
        refine Calls.mono HN.out ?_
        rintro e w1 ⟨rfl, p', hp', hq, hk⟩
        have hpe : p' = p + 4 := by
          have h1 := congrArg List.length hp'
          have h2 := hq.2.2.1
          have h3 := HP4.out
          simp only [List.length_drop] at h1
          omega
        subst hpe
        have d0 := hq.c0
        have d1 := hq.c1
        have d2 := hq.c2
        have HQ : Hid (IsQ w1 g v bs (p + 4) 0 ∧ Kept w w1 (· = g)) := ⟨hq, hk⟩
        clear hp' hk hq
        clear d0 d1
        go_wp2_with fail
        refine (qFault_any g v bs (p + 4) 0 _ p 11 HQ.out.1 hp).mono ?_
        rintro e w2 ⟨rfl, h2, hk2⟩
        have HR : Hid (QTo w g v bs ⟨-1, bs.drop p, 11⟩ w2) := ⟨p, rfl, h2, HQ.out.2.trans hk2 (fun _ _ h => h)⟩
        clear h2 hk2
        go_wp2
        go_ret
        exact ⟨rfl, HR.out⟩
    · rw [if_neg hw]
      obtain ⟨m, rfl⟩ : ∃ m : Nat, N = (m : Int) := ⟨N.toNat, by omega⟩
      have hw1 : ¬ ((m : Int) < 0) := by omega
      have hw2 : ¬ (most < (m : Int)) := by omega
      clear hw
      obtain ⟨ao, cap, rfl, q1, q2, _, h3⟩ := H.out.2.1
      unfold maxLen at q2
      clear h3
      have hp4 := HP4.out
      by_cases hs : ((bs.drop p).length : Int) - 4 < m
      · rw [if_pos hs]
        have hb1 : decide ((bs.length : Int) - ((p : Int) + 4) < (m : Int)) = true := by simp; omega
        have hb2 : decide ((bs.length : Int) - ((p + 4 : Nat) : Int) < (m : Int)) = true := by simp; omega
        clear hs
        go_enter Tryz.func10, Tryz.ntmps10
        go_wp2_with fail
        refine Calls.mono HN.out ?_
        rintro e w1 ⟨rfl, p', hp', hq, hk⟩
        have hpe : p' = p + 4 := by
          have h1 := congrArg List.length hp'
          have h2 := hq.2.2.1
          have h3 := HP4.out
          simp only [List.length_drop] at h1
          omega
        subst hpe
        have d0 := hq.c0
        have d1 := hq.c1
        have d2 := hq.c2
        have HQ : Hid (IsQ w1 g (.slice ao bs.length cap) bs (p + 4) 0 ∧ Kept w w1 (· = g)) := ⟨hq, hk⟩
        clear hp' hk hq
        go_wp2
        go_quiet (fail)
        go_wp2_with fail
        refine (qFault_any g (.slice ao bs.length cap) bs (p + 4) 0 _ p 10 (HQ.out.1.kept ((Kept.refl w1 (fun _ => False)).drewN nq) (fun h => h) (fun _ _ h => h)) hp).mono ?_
        rintro e w2 ⟨rfl, h2, hk2⟩
        have HR : Hid (QTo w g (.slice ao bs.length cap) bs ⟨-1, bs.drop p, 10⟩ w2) := ⟨p, rfl, h2, (HQ.out.2.drewN nq).trans hk2 (fun _ _ h => h)⟩
        clear h2 hk2
        go_wp2
        go_ret
        exact ⟨rfl, HR.out⟩
      · rw [if_neg hs]
        have hb1 : decide ((bs.length : Int) - ((p : Int) + 4) < (m : Int)) = false := by simp; omega
        have hb2 : decide ((bs.length : Int) - ((p + 4 : Nat) : Int) < (m : Int)) = false := by simp; omega
        have e3 : (bs.drop p).drop 4 = bs.drop (p + 4) := by rw [List.drop_drop]
        clear hs
        go_enter Tryz.func10, Tryz.ntmps10
        go_wp2_with fail
        refine Calls.mono HN.out ?_
        rintro e w1 ⟨rfl, p', hp', hq, hk⟩
        have hpe : p' = p + 4 := by
          have h1 := congrArg List.length hp'
          have h2 := hq.2.2.1
          have h3 := HP4.out
          simp only [List.length_drop] at h1
          omega
        subst hpe
        have d0 := hq.c0
        have d1 := hq.c1
        have d2 := hq.c2
        have HQ : Hid (IsQ w1 g (.slice ao bs.length cap) bs (p + 4) 0 ∧ Kept w w1 (· = g)) := ⟨hq, hk⟩
        clear hp' hk hq
        go_wp2
        go_quiet (fail)
        go_wp2_with fail
        go_ret
        exact ⟨rfl, p + 4, e3.symm, HQ.out.1.kept ((Kept.refl w1 (fun _ => False)).drewN nq) (fun h => h) (fun _ _ h => h), HQ.out.2.drewN nq⟩
  · have e0 : ∃ fo, fo ≠ 0 ∧ rdNum 4 (bs.drop p) f = ⟨0, bs.drop p, fo⟩ ∧ rdCnt most (bs.drop p) f = ⟨-1, bs.drop p, fo⟩ := by
      unfold rdNum rdCnt
      by_cases hf : f ≠ 0
      · exact ⟨f, hf, by rw [if_pos hf], by rw [if_pos hf]⟩
      · rw [if_neg hf, if_neg hf]
        have hl4 : (bs.drop p).length < 4 := by
          have hf' : f = 0 := by simpa using hf
          have := fun h => hok ⟨hf', h⟩
          omega
        exact ⟨10, by decide, by rw [if_pos hl4], by rw [if_pos hl4]⟩
    obtain ⟨fo, hfo, e0, e1⟩ := e0
    rw [e0] at hnum
    rw [e1]
    have HN : Hid _ := hnum
    have hfo' : (fo != 0) = true := by simp [hfo]
    have hd0 : down32 0 = 0 := by rw [down32_is 0 (by omega) (by omega)]; rfl
    clear hnum e0 e1 hok hfo
    go_enter Tryz.func10, Tryz.ntmps10
    go_wp2_with fail
    refine Calls.mono HN.out ?_
    rintro e w1 ⟨rfl, hq⟩
    have HQ : Hid (QTo w g v bs ⟨0, bs.drop p, fo⟩ w1) := hq
    have d2 : w1.cell? ⟨g, 2, none⟩ = some (.int .i64 fo) := by obtain ⟨q, _, h2, _⟩ := hq; exact h2.c2
    clear hq
    go_wp2
    go_ret
    exact ⟨rfl, HQ.out⟩

end

section
variable (g : Nat) (v : Value) (bs : List Int) (p : Nat) (f : Int) (w : World)

set_option maxHeartbeats 1000000 in
theorem qText_any (most : Int) (h : IsQ w g v bs p f) (hb : Byts bs) : Calls Tryz.prog 11 #[.pointer (some ⟨g, 0, none⟩), .int .i64 most] w fun e w' => e = .returned (.string (strOfNums (rdBuf most (bs.drop p) f).1)) ∧ QTo w g v bs (rdBuf most (bs.drop p) f).2 w' := by
  have HB : Hid _ := qBuffer_any g v bs p f w most h hb
  have HT : Hid (∀ (w : World) (u : Value) (ys : List Int), Sees w u ys → (convert 22 9 u).run Tryz.prog w = .ok (.string (strOfNums ys)) w) := run_text
  clear h hb
  go_enter Tryz.func11, Tryz.ntmps11
  go_wp2_with fail
  refine Calls.mono HB.out ?_
  rintro e w1 ⟨u, rfl, ho, hq⟩
  have ht := HT.out w1 u _ (Sees.own ho)
  obtain ⟨ua, un, uc, rfl⟩ := owns_shape ho
  have HQ : Hid _ := hq
  clear ho hq HB HT
  go_wp2_with fail
  go_ret
  exact ⟨rfl, HQ.out⟩
end

set_option maxHeartbeats 400000 in
theorem refNewG (v : Value) (bs : List Int) (w : World) (h : Sees w v bs) (hl : bs.length ≤ 60000000000000) :
    Calls Tryz.prog 9 #[v] w fun e w' => ∃ g v', e = .returned (.pointer (some ⟨g, 0, none⟩)) ∧ IsQ w' g v' bs 0 0 ∧ w.heap.size ≤ g ∧ (∀ k, v'.ownBlock = some k → w.heap.size ≤ k ∧ k < g) ∧ Below w.heap.size w w' := by
  have H : Hid (Sees w v bs ∧ bs.length ≤ 60000000000000) := ⟨h, hl⟩
  clear h hl
  go_enter Tryz.func9, Tryz.ntmps9
  go_wp2_with fail
  refine (copyBytes_any _ bs _ H.out.1 (by have := H.out.2; omega)).mono ?_
  rintro e w1 ⟨v1, rfl, ho, hb⟩
  obtain ⟨a0, a1, a2, rfl⟩ : ∃ a n c, v1 = .slice a n c := by obtain ⟨a, c, e, _⟩ := Sees.own ho; exact ⟨a, _, c, e⟩
  have HB : Hid (Owns w1 w.heap.size (.slice a0 a1 a2) bs ∧ Below w.heap.size w w1) := ⟨ho, hb⟩
  clear ho hb
  go_wp2_with fail
  go_ret
  refine ⟨_, .slice a0 a1 a2, rfl, ⟨heap_alloc_new _ _, (Sees.own HB.out.1).below ((Below.refl _ _).alloc (Nat.le_refl _) _) (Nat.le_refl _), Nat.zero_le _, by have := H.out.2; omega, fun _ e => ?_⟩, HB.out.2.size, fun k e => HB.out.1.lt k e, HB.out.2.alloc HB.out.2.size _⟩
  have := (HB.out.1.lt _ e).2
  omega
end Go.Proofs.YtickndnaejdanaaGreatDoor
