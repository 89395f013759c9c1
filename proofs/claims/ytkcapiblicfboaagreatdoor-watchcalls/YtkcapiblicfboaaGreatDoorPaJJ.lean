/- What the document's end, Name and Names answer. -/
import Derived.Test.YtkcapiblicfboaaGreatDoorPaIJ
import Derived.ArgAppend
namespace Go.Proofs.YtkcapiblicfboaaGreatDoor
open Go.RowKit Go.Shelf
set_option maxRecDepth 8000

theorem end_any (s : ByteArray) (p : Nat) (hp : p ≤ s.size) (hl : s.size ≤ 4294967296) (w : World) :
    Calls Tryz.prog 99 #[.string s, .int .i64 (p : Int)] w fun e w' => e = .returned (.int .i64 ((p + (seg (s.data.toList.drop p)).length : Nat) : Int)) ∧ w' = w := by
  obtain ⟨q, hq⟩ : ∃ q, q = p + (seg (s.data.toList.drop p)).length := ⟨_, rfl⟩
  rw [← hq]
  have hH : q ≤ s.size ∧ (∀ k, p ≤ k → k < q → s.data.toList.getD k 0 ≠ 47) ∧ (q < s.size → s.data.toList.getD q 0 = 47) := by
    rcases seg_split (s.data.toList.drop p) with ⟨h1, h2⟩ | ⟨b, hb⟩
    · rw [h2, List.length_drop, ← size_list] at hq
      refine ⟨by omega, fun k hk hk2 e => h1 ?_, fun h => by omega⟩
      rw [List.getD_eq_getElem?_getD, List.getElem?_eq_getElem (by rw [← size_list]; omega)] at e
      have hd : (s.data.toList.drop p)[k - p]'(by rw [List.length_drop, ← size_list]; omega) = s.data.toList[k]'(by rw [← size_list]; omega) := by
        rw [List.getElem_drop]; congr 1; omega
      simp only [Option.getD_some] at e
      rw [← e, ← hd]
      exact List.getElem_mem _
    · have hn := seg_noslash (s.data.toList.drop p)
      have hlen := congrArg List.length hb
      rw [List.length_drop, ← size_list] at hlen
      simp only [List.length_append, List.length_cons] at hlen
      refine ⟨by omega, fun k hk hk2 e => ?_, fun _ => ?_⟩
      · refine hn ?_
        have e2 : (s.data.toList.drop p).getD (k - p) 0 = 47 := by
          rw [List.getD_eq_getElem?_getD, List.getElem?_drop, Nat.add_sub_cancel' hk, ← List.getD_eq_getElem?_getD]; exact e
        rw [hb, getD_app _ _ _ (by omega), List.getD_eq_getElem?_getD, List.getElem?_eq_getElem (by omega)] at e2
        simp only [Option.getD_some] at e2
        rw [← e2]
        exact List.getElem_mem _
      · have e2 : (s.data.toList.drop p).getD (q - p) 0 = 47 := by
          rw [hb, hq, Nat.add_sub_cancel_left, getD_mid]
        rw [List.getD_eq_getElem?_getD, List.getElem?_drop, Nat.add_sub_cancel' (by omega), ← List.getD_eq_getElem?_getD] at e2
        exact e2
  have hpq : p ≤ q := by omega
  obtain ⟨h1, h2, h3⟩ := hH
  have HH : Hid ((∀ k, p ≤ k → k < q → s.data.toList.getD k 0 ≠ 47) ∧ (q < s.size → s.data.toList.getD q 0 = 47)) := ⟨h2, h3⟩
  clear h2 h3 hq
  go_enter Tryz.func99, Tryz.ntmps99
  go_wp2
  go_loop [5] (fun vi => ∃ k : Nat, p ≤ k ∧ k ≤ q ∧ vi = .int .i64 (k : Int)) (fun vi => s.size - (intOf vi).toNat)
  case atStart => exact ⟨p, Nat.le_refl _, hpq, rfl⟩
  case round =>
    obtain ⟨k, hk, hk2, rfl⟩ := hrel
    by_cases hlt : k < s.size
    · have hby := byte_at s k hlt
      by_cases he : k = q
      · subst he
        have h47 : ((s[k].toNat : Int) == 47) = true := by rw [hby, HH.out.2 hlt]; rfl
        clear hby
        go_wp2
        go_ret
        exact ⟨rfl, rfl⟩
      · have h47 : ((s[k].toNat : Int) == 47) = false := by
          rw [beq_eq_false_iff_ne]
          intro e
          exact HH.out.1 k hk (by omega) (by rw [← hby]; exact UInt8.toNat_inj.1 (by show s[k].toNat = 47; omega))
        clear hby
        go_wp2
        refine ⟨⟨k + 1, by omega, by omega, by simp⟩, ?_⟩
        simp [intOf]; omega
    · have he : k = q := by omega
      have HE : Hid (s.size = q) := by show _ = _; omega
      clear he
      go_wp2
      go_ret
      refine ⟨ret_int ?_, rfl⟩
      have := HE.out
      omega

theorem eq_list (s : ByteArray) (x : Bs) : (s.toList == x) = decide (s.data.toList = x) := by
  rw [toList_eq, Bool.eq_iff_iff]; simp

/-- What a code point's number, or none, tells of a name. -/
theorem good_point {L : Bs} {c : Int} (h : c = ((dec L).1 : Int) ∨ (c = -1 ∧ (dec L).1 = 65533)) :
    (goodI c = (stand (dec L).1 && decide ((dec L).1 ≠ 47))) ∧ (c < 0 → goodI c = false) := by
  rcases h with rfl | ⟨rfl, h⟩
  · refine ⟨?_, fun h => by omega⟩
    unfold goodI
    rw [standI_nat]
    congr 1
    rw [decide_eq_decide]
    omega
  · rw [h]
    exact ⟨by decide, fun _ => by decide⟩

theorem rg_step (L : Bs) (i : Nat) (hi : i < L.length) : rg (L.drop i) = if stand (dec (L.drop i)).1 && decide ((dec (L.drop i)).1 ≠ 47) then (rg (L.drop (i + (dec (L.drop i)).2))).map (· + (dec (L.drop i)).2) else some 0 := by
  have h0 : L.drop i ≠ [] := fun e => by have := congrArg List.length e; rw [List.length_drop] at this; simp at this; omega
  rw [rg_cons h0, List.drop_drop]

theorem step_le (L : Bs) (i : Nat) (hi : i < L.length) : 1 ≤ (dec (L.drop i)).2 ∧ i + (dec (L.drop i)).2 ≤ L.length := by
  have h0 : L.drop i ≠ [] := fun e => by have := congrArg List.length e; rw [List.length_drop] at this; simp at this; omega
  have := dec_width _ h0
  rw [List.length_drop] at this
  omega

set_option maxHeartbeats 1000000 in
theorem name_any (s : ByteArray) (hl : s.size ≤ 4294967296) (w : World) :
    Calls Tryz.prog 93 #[.string s] w fun e w' => e = .returned (.bool (nameB s.data.toList)) ∧ w' = w := by
  have hz := size_list s
  by_cases hnf : nf s.data.toList = none
  · have hb : nameB s.data.toList = decide (rg s.data.toList = none) := by unfold nameB; rw [decide_eq_true hnf]; rfl
    have h1 : ¬ s.data.toList = [46] := fun e => by rw [e] at hnf; simp [nf] at hnf
    have h2 : ¬ s.data.toList = [46, 46] := fun e => by rw [e] at hnf; simp [nf] at hnf
    have h3 : ¬ s.data.toList = [] := fun e => by rw [e] at hnf; simp [nf] at hnf
    have h4 : ¬ 24 < s.size := fun h => by rw [hz] at h; rw [nf_long h] at hnf; simp at hnf
    have h5 : 1 ≤ s.size := by rw [hz]; exact List.length_pos_iff.2 h3
    have e1 := eq_list s [46]
    have e2 := eq_list s [46, 46]
    rw [decide_eq_false h1] at e1
    rw [decide_eq_false h2] at e2
    rw [hb]
    have HZ : Hid (s.size = s.data.toList.length) := hz
    clear hb h1 h2 h3 hnf hz
    go_enter Tryz.func93, Tryz.ntmps93
    go_wp2
    go_loop [3] (fun vi => ∃ i : Nat, i ≤ s.size ∧ vi = .int .i64 (i : Int) ∧ Hid ((rg s.data.toList = none) ↔ (rg (s.data.toList.drop i) = none))) (fun vi => s.size - (intOf vi).toNat)
    case atStart => exact ⟨0, Nat.zero_le _, rfl, by show _ ↔ _; simp⟩
    case round =>
      obtain ⟨i, hi, rfl, HR⟩ := hrel
      by_cases hlt : i < s.size
      · have hs := rg_step s.data.toList i (by rw [← HZ.out]; exact hlt)
        have hle := step_le s.data.toList i (by rw [← HZ.out]; exact hlt)
        rw [← HZ.out] at hle
        go_wp2_with fail
        refine (point_any s i hlt hl _).mono ?_
        rintro e w1 ⟨⟨c, rfl, hc⟩, rfl⟩
        obtain ⟨hg, hneg⟩ := good_point hc
        rw [← hg] at hs
        obtain ⟨n, hn⟩ : ∃ n, n = (dec (s.data.toList.drop i)).2 := ⟨_, rfl⟩
        rw [← hn] at hs hle ⊢
        have HS : Hid _ := hs
        clear hs hc hg hn
        cases hgc : goodI c with
        | true =>
          have hc1 : ¬ c = -1 := fun e => by rw [e] at hgc; exact absurd hgc (by decide)
          have hc2 : (c == -1) = false := by simpa using hc1
          clear hneg
          go_wp2_with fail
          refine (good_any c _).mono ?_
          rintro e w2 ⟨rfl, rfl⟩
          rw [hgc]
          go_wp2
          refine ⟨⟨i + n, by omega, by simp, ?_⟩, ?_⟩
          · show _ ↔ _
            rw [HR.out, HS.out, hgc]
            simp
          · simp [intOf]; omega
        | false =>
          have HE : Hid (¬ rg s.data.toList = none) := by
            show ¬ _
            rw [HR.out, HS.out, hgc]
            simp
          by_cases hc1 : c = -1
          · have hc2 : (c == -1) = true := by simpa using hc1
            clear hneg
            go_wp2
            go_ret
            exact ⟨by rw [decide_eq_false HE.out]; rfl, rfl⟩
          · have hc2 : (c == -1) = false := by simpa using hc1
            clear hneg
            go_wp2_with fail
            refine (good_any c _).mono ?_
            rintro e w2 ⟨rfl, rfl⟩
            rw [hgc]
            go_wp2
            go_ret
            exact ⟨by rw [decide_eq_false HE.out]; rfl, rfl⟩
      · have HE : Hid (rg s.data.toList = none) := by
          show _ = _
          rw [HR.out, List.drop_eq_nil_of_le (by rw [← HZ.out]; omega), rg_nil]
        go_wp2
        go_ret
        exact ⟨by rw [decide_eq_true HE.out]; rfl, rfl⟩
  · have hb : nameB s.data.toList = false := by unfold nameB; rw [decide_eq_false hnf]; rfl
    rw [hb]
    have hc : 24 < s.size ∨ s.size = 0 ∨ s.data.toList = [46] ∨ s.data.toList = [46, 46] := by
      unfold nf at hnf
      rw [hz]
      by_cases h1 : 24 < s.data.toList.length
      · exact .inl h1
      · rw [if_neg h1] at hnf
        by_cases h2 : s.data.toList = [] ∨ s.data.toList = [46] ∨ s.data.toList = [46, 46]
        · rcases h2 with h2 | h2 | h2
          · exact .inr (.inl (by rw [h2]; rfl))
          · exact .inr (.inr (.inl h2))
          · exact .inr (.inr (.inr h2))
        · rw [if_neg h2] at hnf; exact absurd rfl hnf
    have e1 := eq_list s [46]
    have e2 := eq_list s [46, 46]
    rcases hc with h | h | h | h
    · clear e1 e2 hz hb hnf
      go_enter Tryz.func93, Tryz.ntmps93
      go_wp2
      go_ret
      exact ⟨rfl, rfl⟩
    · clear e1 e2 hz hb hnf
      go_enter Tryz.func93, Tryz.ntmps93
      go_wp2
      go_ret
      exact ⟨rfl, rfl⟩
    · rw [decide_eq_true h] at e1
      rw [h] at hz
      have h1 : s.size = 1 := hz
      clear e2 hz hb hnf h
      go_enter Tryz.func93, Tryz.ntmps93
      go_wp2
      go_ret
      exact ⟨rfl, rfl⟩
    · rw [decide_eq_false (by rw [h]; decide)] at e1
      rw [decide_eq_true h] at e2
      rw [h] at hz
      have h1 : s.size = 2 := hz
      clear hz hb hnf h
      go_enter Tryz.func93, Tryz.ntmps93
      go_wp2
      go_ret
      exact ⟨rfl, rfl⟩

end Go.Proofs.YtkcapiblicfboaaGreatDoor
