/- slices.EqualFunc at any two lists of requests: true only where the data are the same. -/
import Derived.Test.YtoeialngbbfoeaaGreatDoorBqHJ
import Derived.Test.YtoeialngbbfoeaaGreatDoorWfNJ
namespace Go.Proofs.YtoeialngbbfoeaaGreatDoor
open Go.RowKit
set_option maxRecDepth 8000

set_option maxHeartbeats 4000000 in
theorem eqFuncRq_eq (n : Nat) (ops ops' : Fin n → Rq) (oc od : Fin n → List Value) (v u : Value) (w : World) (hv : SeesR w v 11 (List.ofFn oc)) (hu : SeesR w u 11 (List.ofFn od)) (hs : ∀ i, SeesRq w (oc i) (ops i)) (ht : ∀ i, SeesRq w (od i) (ops' i))
    (hI : ∀ (i : Fin n) (W : World), Below w.heap.size w W → Calls Tryz.prog 19 #[.agg (oc i).toArray, .agg (od i).toArray] W fun e w' => ∃ b : Bool, e = .returned (.bool b) ∧ (b = true → ops i = ops' i) ∧ Below W.heap.size W w') :
    Calls Tryz.prog 73 #[v, u, .func (.func 19) #[] #[]] w fun e w' => ∃ b : Bool, e = .returned (.bool b) ∧ (b = true → ops = ops') ∧ Below w.heap.size w w' := by
  obtain ⟨ao, cap, rfl, hlc, hcm, _, h3⟩ := hv
  obtain ⟨bo, cbp, rfl, glc, gcm, _, g3⟩ := hu
  unfold maxLen at hcm gcm
  simp only [List.length_ofFn] at hlc glc ⊢
  have HI : Hid _ := hI
  have HS : Hid ((List.ofFn oc = [] ∨ _) ∧ (List.ofFn od = [] ∨ _) ∧ (∀ i, SeesRq w (oc i) (ops i)) ∧ ∀ i, SeesRq w (od i) (ops' i)) := ⟨h3, g3, hs, ht⟩
  clear h3 g3 hs ht hI
  go_enter Tryz.func73, Tryz.ntmps73
  go_wp2_with fail
  go_loopw [17] (fun i wr => ∃ k : Nat, k ≤ n ∧ i = .int .i64 k ∧ Hid (Below w.heap.size w wr) ∧ Hid (∀ i : Fin n, i.1 < k → ops i = ops' i)) (fun i _ => n - (intOf i).toNat)
  case atStart => exact ⟨0, Nat.zero_le _, rfl, Below.refl _ _, fun i h => absurd h (Nat.not_lt_zero _)⟩
  case round =>
    obtain ⟨k, hk, rfl, HB, HQ⟩ := hrel
    by_cases hlt : k < n
    · obtain ⟨h3, g3, hs, ht⟩ := HS.out
      rcases h3 with h3 | ⟨bx, ofx, rfl, h3⟩
      · have : n = 0 := by simpa using congrArg List.length h3
        omega
      rcases g3 with g3 | ⟨b_y, ofy, rfl, g3⟩
      · have : n = 0 := by simpa using congrArg List.length g3
        omega
      have HX := HI.out ⟨k, hlt⟩
      have HQ1 : Hid (ops ⟨k, hlt⟩ = ops' ⟨k, hlt⟩ → ∀ i : Fin n, i.1 < k + 1 → ops i = ops' i) := fun e i hi => by
        by_cases h : i.1 < k
        · exact HQ.out i h
        · obtain ⟨i, hi'⟩ := i
          obtain rfl : i = k := by simp only at hi h; omega
          exact e
      clear HQ
      generalize hoo : ops ⟨k, hlt⟩ = o1 at *
      generalize hoo' : ops' ⟨k, hlt⟩ = o2 at *
      have x1 := rq_cell1 (hs ⟨k, hlt⟩)
      have y1 := rq_cell1 (ht ⟨k, hlt⟩)
      have xl := (hs ⟨k, hlt⟩).len
      have yl := (ht ⟨k, hlt⟩).len
      have hx : wr.rangeAt bx (ofx + k * 11) (oc ⟨k, hlt⟩) := fun j y hj => by
        obtain ⟨hj1, rfl⟩ := List.getElem?_eq_some_iff.1 hj
        have := cell_later (h3 k (by simpa using hlt) j (by omega)) HB.out (Nat.le_refl _)
        simpa [List.getD_eq_getElem?_getD, hj] using this
      have hy : ∀ W, Below w.heap.size w W → W.rangeAt b_y (ofy + k * 11) (od ⟨k, hlt⟩) := fun W hW j y hj => by
        obtain ⟨hj1, rfl⟩ := List.getElem?_eq_some_iff.1 hj
        have := cell_later (g3 k (by simpa using hlt) j (by omega)) hW (Nat.le_refl _)
        simpa [List.getD_eq_getElem?_getD, hj] using this
      clear h3 g3 hs ht
      generalize oc ⟨k, hlt⟩ = X at *
      generalize od ⟨k, hlt⟩ = Y at *
      have R := rows2 wr 33 #[.int .i8 0, .string ⟨#[]⟩, .slice none 0 0, .slice none 0 0, .int .i32 0, .bool false, .bool false, .int .i64 0, .int .i32 0, .slice none 0 0, .slice none 0 0] X.toArray Y.toArray
      have hy2 := hy _ (HB.out.trans (R.b2.mono HB.out.size))
      have s1 := R.s1
      have s3 := R.s3
      have r1 := R.r1
      have r2 := R.r2
      have HB4 : Hid (Below w.heap.size w _) := HB.out.trans (R.b4.mono HB.out.size)
      have qx : (Tryz.prog.info? 33).map (·.size) = some X.length := by rw [xl]; exact rq_size
      have qy : (Tryz.prog.info? 33).map (·.size) = some Y.length := by rw [yl]; exact rq_size
      have qx' : (Tryz.prog.info? 33).map (·.size) = some X.toArray.size := by rw [List.size_toArray]; exact qx
      have qy' : (Tryz.prog.info? 33).map (·.size) = some Y.toArray.size := by rw [List.size_toArray]; exact qy
      clear R hy
      go_upto_region 6 with (first
        | (refine wpList_load_mid rfl 33 _ rfl bx (ofx + k * 11) rfl X _ hx Tryz.underlying33 rfl qx ?_)
        | (refine wpList_store_row rfl 33 _ _ rfl wr.heap.size X.toArray rfl rfl 33 _ s1 qx' (by simp [xl]) x1 ?_))
      clear hx s1
      go_upto_region 7 with (first
        | (refine wpList_load_mid rfl 33 _ rfl b_y (ofy + k * 11) rfl Y _ hy2 Tryz.underlying33 rfl qy ?_)
        | (refine wpList_store_row rfl 33 _ _ rfl (wr.heap.size + 1) Y.toArray rfl rfl 33 _ s3 qy' (by simp [yl]) y1 ?_))
      clear hy2 s3
      have HY := HX _ HB4.out
      generalize ((((wr.alloc _).setRow wr.heap.size X.toArray).alloc _).setRow (wr.heap.size + 1) Y.toArray) = W4 at *
      clear HX HI HS
      go_wp2_with (first
        | (refine wpList_load_row rfl 33 _ rfl wr.heap.size rfl 33 _ (0, 0) _ r1 Tryz.underlying33 rfl qx' ?_)
        | (refine wpList_load_row rfl 33 _ rfl (wr.heap.size + 1) rfl 33 _ (0, 0) _ r2 Tryz.underlying33 rfl qy' ?_))
      go_at_call 19
      refine HY.mono ?_
      rintro e w5 ⟨b, rfl, hb, b5⟩
      have HR : Hid (Below w.heap.size w w5) := HB4.out.trans (b5.mono HB4.out.size)
      clear HY b5 r1 r2
      cases b with
      | true =>
        have HQ2 : Hid _ := HQ1.out (hb rfl)
        clear hb HQ1
        go_wp2_with fail
        go_roundw
        case rel => exact ⟨k + 1, by omega, by go_num, HR, HQ2⟩
        case measure => simp [intOf]; omega
      | false =>
        clear hb HQ1
        go_wp2_with fail
        go_ret
        exact ⟨false, rfl, (fun h => by cases h), HR.out⟩
    · obtain rfl : k = n := by omega
      go_wp2_with fail
      go_ret
      exact ⟨true, rfl, fun _ => funext fun i => HQ.out i i.2, HB.out⟩

/-- slices.EqualFunc at any two lists of requests. -/
theorem eqFuncRq_sound (n m : Nat) (ops : Fin n → Rq) (ops' : Fin m → Rq) (oc : Fin n → List Value) (od : Fin m → List Value) (v u : Value) (w : World) (hv : SeesR w v 11 (List.ofFn oc)) (hu : SeesR w u 11 (List.ofFn od)) (hs : ∀ i, SeesRq w (oc i) (ops i)) (ht : ∀ i, SeesRq w (od i) (ops' i))
    (hI : ∀ (i : Fin n) (j : Fin m) (W : World), Below w.heap.size w W → Calls Tryz.prog 19 #[.agg (oc i).toArray, .agg (od j).toArray] W fun e w' => ∃ b : Bool, e = .returned (.bool b) ∧ (b = true → ops i = ops' j) ∧ Below W.heap.size W w') :
    Calls Tryz.prog 73 #[v, u, .func (.func 19) #[] #[]] w fun e w' => ∃ b : Bool, e = .returned (.bool b) ∧ (b = true → ∃ h : n = m, h ▸ ops = ops') ∧ Below w.heap.size w w' := by
  by_cases hnm : n = m
  · subst hnm
    refine (eqFuncRq_eq n ops ops' oc od v u w hv hu hs ht (fun i W hW => hI i i W hW)).mono ?_
    rintro e w' ⟨b, rfl, hb, h⟩
    exact ⟨b, rfl, fun e => ⟨rfl, hb e⟩, h⟩
  · obtain ⟨ao, cap, rfl, hlc, hcm, _, h3⟩ := hv
    obtain ⟨bo, cbp, rfl, glc, gcm, _, g3⟩ := hu
    have hne : ((n : Int) != (m : Int)) = true := by simp; omega
    simp only [List.length_ofFn]
    clear h3 g3 hI hs ht hlc hcm glc gcm
    go_enter Tryz.func73, Tryz.ntmps73
    go_wp2_with fail
    go_ret
    exact ⟨false, rfl, (fun h => by cases h), Below.refl _ _⟩

end Go.Proofs.YtoeialngbbfoeaaGreatDoor
