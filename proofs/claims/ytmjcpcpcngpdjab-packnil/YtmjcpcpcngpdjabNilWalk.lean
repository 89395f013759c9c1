/- PackNil's walk: every call of a nil Writer and of a nil Reader. -/
import Derived.Test.YtmjcpcpcngpdjabNilGet2
import Derived.Test.YtmjcpcpcngpdjabWorks
import Derived.Test.YtmjcpcpcngpdjabOpsOpen
import Derived.Deep.RegionHeld
import Derived.Deep.CutRange
namespace Go.Proofs.Ytmjcpcpcngpdjab
open Go.RowKit

theorem eqFloats0 (w : World) : Calls Try.prog 58 #[.float .f64 0, .float .f64 0] w fun e w' => e = .returned (.bool true) ∧ w' = w := by
  have f1 : (FloatKind.f64.format.order 0 0 != some .eq) = false := by decide
  have f2 : (FloatKind.f64.format.order 0 0 == some .eq) = true := by decide
  have f4 : (FloatKind.f64.format.order 9218868437227405312 9218868437227405312 == some .eq) = true := by decide
  have hq := fun w => run_float_arith (P := Try.prog) w .quo 38 .f64 4607182418800017408 0 9218868437227405312 (by decide)
  go_enter Try.func58, Try.ntmps58
  go_wp2
  go_ret
  exact ⟨rfl, rfl⟩

theorem eqE0 (w : World) : (Op.equalIn 10000 47 (.agg #[.int .i64 0, .int .i64 0]) (.agg #[.int .i64 0, .int .i64 0])).run Try.prog w = .ok true w := by kernel_rfl

abbrev none7 : Value := .agg (told false 0 0 ⟨#[]⟩ (.slice none 0 0) 0 0)

set_option maxRecDepth 4000 in
set_option maxHeartbeats 400000 in
theorem same0 (w : World) : Calls Try.prog 19 #[none7, none7] w fun e w' => e = .returned (.bool true) ∧ Below w.heap.size w w' := by
  go_enter Try.func19, Try.ntmps19
  go_wp2_with fail
  refine (eqFloats0 _).mono ?_
  rintro e w1 ⟨rfl, rfl⟩
  go_wp2_with fail
  refine (eqBytes_any _ _ [] [] _ (sees_nil _) (sees_nil _)).mono ?_
  rintro e w2 ⟨rfl, n2, hw2⟩
  have ed : decide (([] : List Int) = []) = true := by simp
  rw [ed]
  clear ed
  have hk : Kept ((w.alloc told0).alloc told0) w2 (fun _ => False) := by rw [hw2]; exact (Kept.refl _ _).drewN _
  have hA : w2.heap[w.heap.size]? = some told0 := hk.heap (((Kept.refl (w.alloc told0) (fun _ => False)).alloc told0).heap (heap_alloc_new w _) (fun h => h)) (fun h => h)
  have hB : w2.heap[w.heap.size + 1]? = some told0 := hk.heap (told_two _ _) (fun h => h)
  have HB : Hid (Below w.heap.size w w2) := (below_two w told0 told0).trans (hk.below (by simp; omega) (fun _ h => h.elim))
  obtain ⟨_, _, _, _, _, a5, a6, _⟩ := row7 hA
  obtain ⟨_, _, _, _, _, b5, b6, _⟩ := row7 hB
  clear hk hA hB hw2
  have heq := eqE0 w2
  go_wp2
  go_ret
  exact ⟨rfl, HB.out⟩

theorem nil_copied {w w2 w3 : World} {o : Obj} {v3 : Value} {ys : List Int} {d : Nat} (h : Below w.heap.size w w2 ∧ w2.heap[w.heap.size]? = some o) (ho : Owns w3 (w2.drewN d).heap.size v3 ys) (hb : Below (w2.drewN d).heap.size (w2.drewN d) w3) :
    Below w.heap.size w w3 ∧ w3.heap[w.heap.size]? = some o ∧ Sees w3 v3 ys := by
  have hk : Kept w2 w3 (fun _ => False) := ((Kept.refl w2 _).drewN d).trans (news hb) (fun _ _ h => h)
  exact ⟨h.1.trans (hk.below h.1.size (fun _ h => h.elim)), hk.heap h.2 (fun h => h), Sees.own ho⟩

theorem nil_put {w w3 w4 : World} {o : Obj} {v3 : Value} {ys : List Int} (h : Below w.heap.size w w3 ∧ w3.heap[w.heap.size]? = some o ∧ Sees w3 v3 ys) (hb : Below w3.heap.size w3 w4) :
    Below w.heap.size w w4 ∧ w4.heap[w.heap.size]? = some o := by
  have hk : Kept w3 w4 (fun _ => False) := news hb
  exact ⟨h.1.trans (hk.below h.1.size (fun _ h => h.elim)), hk.heap h.2.1 (fun h => h)⟩

set_option maxHeartbeats 1000000 in
theorem packNil_walk (o : OpD) (w : World) (hg : GoodOp w o) (hs : o.s.size ≤ reachBytes) (hy : o.ys.length ≤ reachBytes) :
    Calls Try.prog 4 #[opv o.kind o.on o.n o.x o.s (.slice o.ao o.ys.length o.cap)] w fun e w' => e = .returned (.bool true) ∧ Below w.heap.size w w' := by
  obtain ⟨kind, on, n, x, s, ao, cap, ys⟩ := o
  simp only at hs hy
  obtain ⟨see, byts, n0, n1, k0, k1, x1⟩ := hg
  simp only at see byts n0 n1 k0 k1 x1
  have hr := reachBytes_lt
  have h47 : (2 : Nat) ^ 47 = 140737488355328 := by decide
  rw [h47] at hr
  have HS : Hid (Sees w (.slice ao ys.length cap) ys) := see
  clear see byts h47
  simp only
  go_enter Try.func4, Try.ntmps4
  go_wp2_with fail
  refine (works_any _).mono ?_
  rintro e w1 ⟨rfl, hb1⟩
  have hbox : w1.heap[w.heap.size]? = some (opc kind on n x s (.slice ao ys.length cap)) := (news hb1).heap (heap_alloc_new w _) (fun h => h)
  have HB1 : Hid (Below w.heap.size w w1 ∧ w1.heap[w.heap.size]? = some (opc kind on n x s (.slice ao ys.length cap))) := ⟨(below_new w _).trans (hb1.mono (by simp)), hbox⟩
  have c0 := opc0 hbox
  have c2 := opc2 hbox
  have c3 := opc3 hbox
  have c4 := opc4 hbox
  have c5 := opc5 hbox
  have c1 : w1.cell? ⟨w.heap.size, 1, none⟩ = some (.int .i64 on) := by rw [cell_of_row w1 w.heap.size 1 _ _ _ hbox]; rfl
  clear hb1
  go_wp2_with fail
  refine (long_any _ [⟨kind, on, n, x, s, ao, cap, ys⟩] _ ⟨_, 1, rfl, Nat.le_refl _, by unfold maxLen; omega, .inr ⟨_, _, rfl, fun i hi => ?_⟩⟩).mono ?_
  · have hi0 : i = 0 := by simp at hi; omega
    subst hi0
    have hb := heap_alloc_new w1 (opc kind on n x s (.slice ao ys.length cap))
    simp only [List.getElem_cons_zero, Nat.zero_mul, Nat.add_zero]
    refine ⟨opc0 hb, ?_, opc2 hb, opc3 hb, opc4 hb, opc5 hb, by show s.size ≤ _; omega, by show ys.length ≤ _; omega⟩
    rw [cell_of_row _ w1.heap.size 1 _ _ _ hb]; rfl
  rintro e w2 ⟨r, rfl, hl, m, hw2⟩
  have hk2 : Kept w1 w2 (fun _ => False) := by rw [hw2]; exact ((Kept.refl w1 _).alloc _).drewN _
  have HB2 : Hid (Below w.heap.size w w2 ∧ w2.heap[w.heap.size]? = some (opc kind on n x s (.slice ao ys.length cap))) := ⟨HB1.out.1.trans (hk2.below HB1.out.1.size (fun _ h => h.elim)), hk2.heap HB1.out.2 (fun h => h)⟩
  clear hw2 hk2 HB1 hbox c0 c1 c2 c3 c4 c5
  cases r with
  | true =>
    go_wp2
    go_ret
    exact ⟨rfl, HB2.out.1⟩
  | false =>
    have hlen := hl rfl
    simp only [opSum, OpD.size] at hlen
    have hfit : Fits n x s ys := ⟨n0, n1, x1, by omega, by omega⟩
    have HF : Hid (Fits n x s ys) := hfit
    clear hl hfit
    have c0 := opc0 HB2.out.2
    have c2 := opc2 HB2.out.2
    have c3 := opc3 HB2.out.2
    have c4 := opc4 HB2.out.2
    have c5 := opc5 HB2.out.2
    go_upto_region 6 with fail
    go_cut [] from 12 to 25 (fun wc => Below w.heap.size w wc ∧ wc.heap[w.heap.size]? = some (opc kind on n x s (.slice ao ys.length cap)))
    case first =>
      have HK2 : Hid (Kept w w2 (fun _ => False)) := news HB2.out.1
      go_region_held (fun w' => w'.cell? ⟨w.heap.size, 0, none⟩ = some (.int .i64 kind) ∧ w'.cell? ⟨w.heap.size, 2, none⟩ = some (.int .i64 n) ∧ w'.cell? ⟨w.heap.size, 3, none⟩ = some (.float .f64 x) ∧ w'.cell? ⟨w.heap.size, 4, none⟩ = some (.string s) ∧ w'.cell? ⟨w.heap.size, 5, none⟩ = some (.slice ao ys.length cap)) (go_keep)
        (first
        | (go_at_call 7; refine (copyBytes_any _ ys _ ?_ ?_).mono ?_; exact HS.out.kept (HK2.out.drewN 1) (fun _ _ h => h); omega; rintro e w3 ⟨v3, rfl, ho3, hb3⟩; obtain ⟨ao3, cap3, rfl, q1, q2, q3, q4⟩ := Sees.own ho3; have HB3 : Hid (Below w.heap.size w w3 ∧ w3.heap[w.heap.size]? = some (opc kind on n x s (.slice ao ys.length cap)) ∧ Sees w3 (.slice ao3 ys.length cap3) ys) := nil_copied (d := 1) HB2.out ho3 hb3; have d0 := opc0 HB3.out.2.1; have d2 := opc2 HB3.out.2.1; have d3 := opc3 HB3.out.2.1; have d4 := opc4 HB3.out.2.1; have d5 := opc5 HB3.out.2.1; clear ho3 hb3 q1 q2 q3 q4)
        | (go_at_call 16; refine (nput_all kind 0 n x s ao3 cap3 ys _ HB3.out.2.2 HF.out).mono ?_; rintro e w4 ⟨u, b, rfl, hb4⟩; have HB4 : Hid (Below w.heap.size w w4 ∧ w4.heap[w.heap.size]? = some (opc kind on n x s (.slice ao ys.length cap))) := nil_put HB3.out hb4; have d0 := opc0 HB4.out.2; have d2 := opc2 HB4.out.2; have d3 := opc3 HB4.out.2; have d4 := opc4 HB4.out.2; have d5 := opc5 HB4.out.2; clear hb4))
      all_goals (go_wp2_with fail)
      all_goals go_meet
      all_goals exact HB4.out
    case rest =>
      have HB4 : Hid (Below w.heap.size w wc ∧ wc.heap[w.heap.size]? = some (opc kind on n x s (.slice ao ys.length cap))) := hcut
      have f0 := opc0 HB4.out.2
      have f1 : wc.cell? ⟨w.heap.size, 1, none⟩ = some (.int .i64 on) := by rw [cell_of_row wc w.heap.size 1 _ _ _ HB4.out.2]; rfl
      have f2 := opc2 HB4.out.2
      have f3 := opc3 HB4.out.2
      have f4 := opc4 HB4.out.2
      have f5 := opc5 HB4.out.2
      clear hcut HB2 c0 c2 c3 c4 c5
      have hsf := store_float
      by_cases h10 : kind = 10
      subst h10
      rotate_left
      have h10' : (kind == 10) = false := by simp [h10]
      all_goals go_wp2_with fail
      all_goals refine (nget_all on n x s ao ys.length cap _ _).mono ?_
      rw [if_neg h10]
      clear h10
      rotate_left
      rw [if_pos rfl]
      rotate_left
      · rintro e w5 ⟨rfl, hb5⟩
        have HB5 : Hid (Below w.heap.size w w5 ∧ w5.heap[w.heap.size]? = some (opc kind on n x s (.slice ao ys.length cap))) := ⟨HB4.out.1.trans (hb5.mono HB4.out.1.size), (news hb5).heap HB4.out.2 (fun h => h)⟩
        have g0 := opc0 HB5.out.2
        have g2 := opc2 HB5.out.2
        have hz5 := lt_of_block HB5.out.2
        clear hb5 HB4 f0 f1 f2 f3 f4 f5
        go_wp2_with fail
        refine (nFail n _).mono ?_
        rintro e w6 ⟨rfl, rfl⟩
        go_wp2_with fail
        refine (same0 _).mono ?_
        rintro e w7 ⟨rfl, hb7⟩
        have HB7 : Hid (Below w.heap.size w w7) := (HB5.out.1.alloc HB5.out.1.size _).trans (hb7.mono (by have := HB5.out.1.size; simp; omega))
        clear hb7
        go_wp2_with fail
        refine (nLen _).mono ?_
        rintro e w8 ⟨rfl, rfl⟩
        go_wp2_with fail
        refine (nBytes _).mono ?_
        rintro e w8 ⟨rfl, rfl⟩
        go_wp2_with fail
        refine (nLeft _).mono ?_
        rintro e w8 ⟨rfl, rfl⟩
        go_wp2_with fail
        refine (nErr _).mono ?_
        rintro e w8 ⟨rfl, rfl⟩
        go_wp2_with fail
        refine (nEnd _).mono ?_
        rintro e w8 ⟨rfl, rfl⟩
        go_wp2
        go_ret
        exact ⟨rfl, HB7.out⟩
      · rintro e w5 ⟨rfl, hb5⟩
        have HB5 : Hid (Below w.heap.size w w5 ∧ w5.heap[w.heap.size]? = some (opc 10 on n x s (.slice ao ys.length cap))) := ⟨HB4.out.1.trans (hb5.mono HB4.out.1.size), (news hb5).heap HB4.out.2 (fun h => h)⟩
        have g0 := opc0 HB5.out.2
        have g2 := opc2 HB5.out.2
        have hz5 := lt_of_block HB5.out.2
        clear hb5 HB4 f0 f1 f2 f3 f4 f5
        go_wp2_with fail
        refine (nFail n _).mono ?_
        rintro e w6 ⟨rfl, rfl⟩
        go_wp2_with fail
        refine (same0 _).mono ?_
        rintro e w7 ⟨rfl, hb7⟩
        have HB7 : Hid (Below w.heap.size w w7) := (HB5.out.1.alloc HB5.out.1.size _).trans (hb7.mono (by have := HB5.out.1.size; simp; omega))
        clear hb7
        go_wp2_with fail
        refine (nLen _).mono ?_
        rintro e w8 ⟨rfl, rfl⟩
        go_wp2_with fail
        refine (nBytes _).mono ?_
        rintro e w8 ⟨rfl, rfl⟩
        go_wp2_with fail
        refine (nLeft _).mono ?_
        rintro e w8 ⟨rfl, rfl⟩
        go_wp2_with fail
        refine (nErr _).mono ?_
        rintro e w8 ⟨rfl, rfl⟩
        go_wp2_with fail
        refine (nEnd _).mono ?_
        rintro e w8 ⟨rfl, rfl⟩
        go_wp2
        go_ret
        exact ⟨rfl, HB7.out⟩

end Go.Proofs.Ytmjcpcpcngpdjab
