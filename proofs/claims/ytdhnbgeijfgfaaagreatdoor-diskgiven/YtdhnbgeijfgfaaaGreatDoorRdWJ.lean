/- The document's disk: Append. -/
import Derived.Test.YtdhnbgeijfgfaaaGreatDoorRdVJ
import Derived.Deep.RegionHeld
namespace Go.Proofs.YtdhnbgeijfgfaaaGreatDoor
open Go.RowKit Go.Shelf
set_option maxRecDepth 8000

theorem wp_appB {P : Program} {o : Oper} {a : Act} {w : World} {K : Act → World → Prop} {Q : Exit → Act → World → Prop} (s x : Operand) (t : TypeId) (hop : o.op = Op.call { callee := Callee.builtin Builtin.append, args := #[s, x], argTypes := #[t, t] }) (v u v' : Value) (w' : World) (hs : a.eval s = v) (hx : a.eval x = u) (hrun : (Builtin.append_ #[t, t] o.type #[v, u]).run P w = .ok v' w') (h : K (a.put o.dst v') w') : Oper.wp P o a w K Q := by
  unfold Oper.wp
  simp [execOp, hop, resolve, invoke, builtin, hs, hx, hrun, Result.andThen]
  exact h

theorem RD.write_room (R : RD) : R.write.2.room = R.room := by
  unfold RD.write
  split
  · split <;> rfl
  · rfl

set_option maxHeartbeats 4000000 in
theorem refAppend_any {w : World} {p : Nat} {fv : Value} {vs : List Value} {R : RD} (h : IsRd w p fv vs R) (ok : RdOk R) (n : ByteArray) (hn : n.size ≤ 140737488355328) (u : Value) (ys : List Int) (hu : Sees w u ys) (hap : ys ≠ [] → ∀ k, u.ownBlock = some k → k < w.heap.size ∧ k ∉ rfoot p fv vs) (hyl : ys.length ≤ 100000000000) :
    Calls Tryz.prog 71 #[.pointer (some ⟨p, 0, none⟩), .string n, u] w (RctTo w p fv vs (R.act (R.errA n ys.length) (appF R.files n ys))) := by
  have hl := lt_of_block h.row
  obtain ⟨c0, c1, c2, c3, c4, c5⟩ := h.cells
  have HA : Hid _ := refAt_any h ok.rise ok.few n
  have HN : Hid _ := refName_any n hn w
  have HH : Hid (IsRd w p fv vs R ∧ RdOk R) := ⟨h, ok⟩
  obtain ⟨r, hr⟩ : ∃ r, r = R.act (R.errA n ys.length) (appF R.files n ys) := ⟨_, rfl⟩
  rw [← hr]
  obtain ⟨ua, uc, rfl, hu1, hu2, hu0, hu3⟩ := hu
  unfold maxLen at hu2
  have HU3 : Hid _ := hu3
  have HAP : Hid _ := hap
  obtain ⟨fa, fc, hfv, hfc, hfm⟩ := img_shape h.img
  have hfew := ok.few
  have hused := ok.used
  have HS : Hid (Calls Tryz.prog 26 #[fv] w.drew fun e w' => e = .returned (.int .i64 (usedD R.files)) ∧ w' = w.drew) := refSum_any (h.img.kept (Below.kept (below_drewN (Below.refl _ _) 1)) (fun j e => .inr e)) ok.few (by omega)
  have HFV : Hid _ := hfv
  rw [hfv] at c1 HS
  have hbd : Below w.heap.size w w.drew := below_drewN (Below.refl _ _) 1
  have HW : Hid _ := refWrite_any (h.later hbd) ok.m0 ok.m1 ok.d0 ok.d1
  obtain ⟨FL, hFL⟩ : ∃ FL, FL = R.files.length := ⟨_, rfl⟩
  obtain ⟨U, hU⟩ : ∃ U, U = usedD R.files := ⟨_, rfl⟩
  obtain ⟨Y, hY⟩ : ∃ Y, Y = ys.length := ⟨_, rfl⟩
  have HFL : Hid _ := hFL
  have HUU : Hid _ := hU
  have HY : Hid _ := hY
  rw [← hU] at hused HS
  rw [← hFL] at c1 hfc hfew HS
  rw [← hY] at hu1 hyl
  rw [← hY]
  unfold RD.errA at hr
  rw [← hY, ← hFL, ← hU] at hr
  clear h ok hu0 hu3 hap hfv hbd hU hFL hY
  cases hp : R.power
  · rw [hp] at hr c2
    rw [if_neg (by simp)] at hr
    have HR : Hid _ := hr
    clear hr hp
    go_enter Tryz.func71, Tryz.ntmps71
    go_wp2_with fail
    go_ret
    exact ⟨by rw [HR.out]; rfl, _, _, by rw [HR.out]; exact RdTo.refl HH.out.1⟩
  · rw [hp] at hr c2
    rw [if_pos rfl] at hr
    cases hm : isNm n
    · rw [hm] at hr HN
      rw [if_neg (by simp)] at hr
      have HR : Hid _ := hr
      clear hr hp hm
      generalize atI R.files n = AT at *
      go_enter Tryz.func71, Tryz.ntmps71
      go_wp2_with fail
      refine Calls.mono HA.out ?_
      rintro e w1 ⟨rfl, hw1⟩
      subst w1
      go_wp2_with fail
      refine Calls.mono HN.out ?_
      rintro e w1 ⟨rfl, hw1⟩
      subst w1
      go_wp2_with fail
      go_ret
      exact ⟨by rw [HR.out]; rfl, _, _, by rw [HR.out]; exact RdTo.refl HH.out.1⟩
    · rw [hm] at hr HN
      rw [if_pos rfl] at hr
      cases hh : hasF R.files n
      · have ea : atI R.files n = -1 := by unfold atI; rw [hh]; rfl
        rw [ea] at HA
        rw [hh] at hr
        by_cases hcr : 64 ≤ FL
        · rw [if_pos ⟨rfl, hcr⟩] at hr
          have HR : Hid _ := hr
          have hd : decide ((FL : Int) ≥ 64) = true := decide_eq_true (by omega)
          clear hr hp hm hh ea
          go_enter Tryz.func71, Tryz.ntmps71
          go_wp2_with fail
          refine Calls.mono HA.out ?_
          rintro e w1 ⟨rfl, hw1⟩
          subst w1
          go_wp2_with fail
          refine Calls.mono HN.out ?_
          rintro e w1 ⟨rfl, hw1⟩
          subst w1
          go_wp2_with fail
          go_ret
          exact ⟨by rw [HR.out]; rfl, _, _, by rw [HR.out]; exact RdTo.refl HH.out.1⟩
        · rw [if_neg (by intro e; exact hcr e.2)] at hr
          have hd : decide ((FL : Int) ≥ 64) = false := decide_eq_false (by omega)
          by_cases hfull : (Y : Int) ≤ R.room - U
          · rw [if_pos hfull] at hr
            have hwr : IntKind.i64.wrap ((U : Int) + (Y : Int)) = (U : Int) + (Y : Int) := wrapI _ (by omega) (by omega)
            have hd2 : decide (R.room < IntKind.i64.wrap ((U : Int) + (Y : Int))) = false := decide_eq_false (by rw [hwr]; omega)
            have hd3 : ¬ R.room < IntKind.i64.wrap ((U : Int) + (Y : Int)) := by rw [hwr]; omega
            clear hwr
            unfold RD.act at hr
            rw [if_pos rfl] at hr
            obtain ⟨q, R', hq⟩ : ∃ q R', R.write = (q, R') := ⟨_, _, rfl⟩
            have hwf := R.write_files
            rw [hq] at HW hr hwf
            have HR : Hid _ := hr
            have HWF : Hid (R'.files = R.files) := hwf
            have HPQ : Hid (hasF R.files n = false) := hh
            clear hr hq hwf hp hm hh ea
            cases q
            · go_enter Tryz.func71, Tryz.ntmps71
              go_wp2_with fail
              refine Calls.mono HA.out ?_
              rintro e w1 ⟨rfl, hw1⟩
              subst w1
              go_wp2_with fail
              refine Calls.mono HN.out ?_
              rintro e w1 ⟨rfl, hw1⟩
              subst w1
              go_upto_region 6 with fail
              go_region_held (fun w' => w'.cell? ⟨p, 0, none⟩ = some (.int .i64 R.room) ∧ w'.cell? ⟨p, 1, none⟩ = some (.slice fa FL fc)) (first | go_keep) (first | (go_at_call 26; refine Calls.mono HS.out ?_; rintro e w' ⟨rfl, hw'⟩; subst hw'))
              go_wp2_with fail
              refine Calls.mono HW.out ?_
              rintro e w2 ⟨rfl, ht2⟩
              have H2 : Hid _ := ht2
              clear ht2
              go_wp2_with fail
              go_ret
              exact ⟨by rw [HR.out]; rfl, _, _, by rw [HR.out]; exact RdTo.after (below_drewN (Below.refl _ _) 1) H2.out⟩
            · go_enter Tryz.func71, Tryz.ntmps71
              go_wp2_with fail
              refine Calls.mono HA.out ?_
              rintro e w1 ⟨rfl, hw1⟩
              subst w1
              go_wp2_with fail
              refine Calls.mono HN.out ?_
              rintro e w1 ⟨rfl, hw1⟩
              subst w1
              go_upto_region 6 with fail
              go_region_held (fun w' => w'.cell? ⟨p, 0, none⟩ = some (.int .i64 R.room) ∧ w'.cell? ⟨p, 1, none⟩ = some (.slice fa FL fc)) (first | go_keep) (first | (go_at_call 26; refine Calls.mono HS.out ?_; rintro e w' ⟨rfl, hw'⟩; subst hw'))
              go_wp2_with fail
              refine Calls.mono HW.out ?_
              rintro e w2 ⟨rfl, ht2'⟩
              have ht2 : RdTo w p fv vs w2 R' fv vs := RdTo.after (below_drewN (Below.refl _ _) 1) ht2'
              clear ht2'
              have hrise2 : Rise R'.files := by rw [HWF.out]; exact HH.out.2.rise
              have hno : hasF R'.files n = false := by rw [HWF.out]; exact HPQ.out
              have hfew2 : R'.files.length ≤ 63 := by rw [HWF.out, ← HFL.out]; omega
              obtain ⟨R3, hR3⟩ : ∃ R3 : RD, R3 = { R' with files := insF R'.files ⟨n, [], 0⟩ } := ⟨_, rfl⟩
              have HR3 : Hid (R3.files = insF R'.files ⟨n, [], 0⟩) := by show _ = _; rw [hR3]
              have HEN0 : Hid (r.1 = 0 ∧ r.2 = { R3 with files := insF R'.files ⟨n, ys, 0⟩ }) := by
                rw [HR.out, hR3]
                refine ⟨rfl, ?_⟩
                show ({ R' with files := appF R.files n ys } : RD) = _
                have h9 : appF R.files n ys = insF R'.files ⟨n, ys, 0⟩ := by
                  unfold appF
                  rw [HPQ.out, HWF.out]
                  rfl
                rw [h9]
              have HC : Hid (Calls Tryz.prog 27 #[.slice fa FL fc, .agg #[.string n, .slice none 0 0, .int .i64 0]] w2 fun e w' => ∃ x' l' y', e = .returned (.slice x' l' y') ∧ Hid (∃ vs', RdTo w p fv vs (w'.setCell ⟨p, 1, none⟩ (.slice x' l' y')) R3 (.slice x' l' y') vs') ∧ (∃ x0 l0 y0, w'.cell? ⟨p, 1, none⟩ = some (.slice x0 l0 y0)) ∧ w'.frozen? ⟨p, 1, none⟩ = false ∧ p < w'.heap.size) := by
                have h6 := refWith_any ht2.is.img hrise2 (by omega) ⟨n, [], 0⟩ none 0 0 hno
                have h8 : fv = .slice fa FL fc := by rw [HFV.out, HFL.out]
                rw [h8] at h6
                refine h6.mono ?_
                rintro e w5 ⟨v', rfl, ho⟩
                obtain ⟨x', l', y', rfl⟩ := ho.slice
                have h5 := ht2.is.later ho.bel
                have hset := ht2.is.setZ (w4 := w2) (w5 := w5) (Below.refl _ _) (.slice none 0 0) (fun k e => by cases e) ho (fun q hq => by
                  rcases insZ_mem hq with h7 | h7
                  · rw [h7]
                    exact ⟨by simp, .inl ⟨rfl, rfl⟩⟩
                  · exact ht2.is.img.zown q h7) (insZ_perm _ _ _) (by rw [zip_snd _ _ ht2.is.img.len]; exact List.Sublist.refl _)
                have h7 := insZ_fst (R'.files.zip vs) ⟨n, [], 0⟩ (.slice none 0 0)
                rw [zip_fst _ _ ht2.is.img.len] at h7
                rw [h7, ← hR3] at hset
                exact ⟨_, _, _, rfl, ⟨_, ht2.trans hset⟩, ⟨_, _, _, by rw [← h8]; exact h5.cells.2.1⟩, frozen_of_row w5 p _ _ _ h5.row, lt_of_block h5.row⟩
              have c1w : w2.cell? ⟨p, 1, none⟩ = some (.slice fa FL fc) := by
                have h8 : fv = .slice fa FL fc := by rw [HFV.out, HFL.out]
                rw [← h8]
                exact ht2.is.cells.2.1
              have hl2 := lt_of_block ht2.is.row
              have HNO : Hid (Rise R'.files ∧ hasF R'.files n = false ∧ R'.files.length ≤ 63) := ⟨hrise2, hno, hfew2⟩
              clear ht2 hrise2 hno hfew2 hR3
              go_wp2_with fail
              refine Calls.mono HC.out ?_
              rintro e w5 ⟨x', l', y', rfl, HT5, ⟨x0, l0, y0, d1⟩, f1, l1⟩
              obtain ⟨w3, e3⟩ : ∃ w3, w3 = w5.setCell ⟨p, 1, none⟩ (.slice x' l' y') := ⟨_, rfl⟩
              rw [← e3] at HT5
              have HE3 : Hid _ := e3
              have hP2 : pl R'.files n < R3.files.length := by
                rw [HR3.out]
                unfold insF
                have := pl_le R'.files n
                simp
                omega
              have HAT : Hid (R3.files[pl R'.files n]'hP2 = ⟨n, [], 0⟩) := by
                have h6 := pl_le R'.files n
                have h7 : R3.files[pl R'.files n]? = some ⟨n, [], 0⟩ := by
                  rw [HR3.out]
                  unfold insF
                  rw [List.getElem?_append_right (List.length_take_le _ _), List.length_take, Nat.min_eq_left h6, Nat.sub_self]
                  rfl
                rw [List.getElem?_eq_getElem hP2] at h7
                exact Option.some.inj h7
              have hrise3 : Rise R3.files := by rw [HR3.out]; exact rise_insert HNO.out.1 ⟨n, [], 0⟩ HNO.out.2.1
              have hlen3 : R3.files.length ≤ 64 := by
                rw [HR3.out]
                unfold insF
                have := pl_le R'.files n
                have := HNO.out.2.2
                simp
                omega
              have HA3 : Hid (Calls Tryz.prog 25 #[.pointer (some ⟨p, 0, none⟩), .string n] w3 fun e w' => e = .returned (.int .i64 (pl R'.files n)) ∧ w' = w3) := by
                obtain ⟨vs', h6⟩ := HT5.out
                have h7 := refAt_any h6.is hrise3 hlen3 n
                have h8 : atI R3.files n = (pl R'.files n : Int) := by
                  unfold atI
                  rw [(hasF_mem hrise3 n).2 ⟨_, List.getElem_mem hP2, by rw [HAT.out]⟩, if_pos rfl, at_pl hrise3 hP2 (by rw [HAT.out])]
                rw [h8] at h7
                exact h7
              obtain ⟨g, gc, hx1, hx2, hc1, hc2⟩ : ∃ g gc, x' = some ⟨g, 0, none⟩ ∧ Value.slice x' l' y' = .slice (some ⟨g, 0, none⟩) R3.files.length gc ∧ R3.files.length ≤ gc ∧ gc ≤ 2 ^ 63 - 1 := by
                obtain ⟨vs', h6⟩ := HT5.out
                obtain ⟨g, c, u, e0, hc1, hc2, _⟩ := h6.is.file _ hP2
                unfold maxLen at hc2
                simp only [Value.slice.injEq] at e0
                exact ⟨g, c, e0.1, by rw [e0.1, e0.2.1, e0.2.2], hc1, hc2⟩
              have HEND : Hid (r.1 = 0 ∧ r.2 = { R3 with files := appK R3.files (pl R'.files n) hP2 ys ys.length }) := by
                refine ⟨HEN0.out.1, ?_⟩
                rw [HEN0.out.2]
                have h9 : insF R'.files ⟨n, ys, 0⟩ = appK R3.files (pl R'.files n) hP2 ys ys.length := by
                  unfold appK
                  rw [HAT.out, HR3.out, List.take_length]
                  unfold insF
                  exact (ins_set _ _ _ _ (pl_le _ _)).symm
                rw [h9]
              have HSM : Hid ((R3.files[pl R'.files n]'hP2).bytes.length + ys.length ≤ 1000000000000) := by
                show _ ≤ _
                rw [HAT.out]
                have h8 := HY.out
                simp
                omega
              have HK : Hid (ApK w p g gc fv vs R3 (pl R'.files n) hP2 ys 0 w3) := by
                obtain ⟨vs', h6⟩ := HT5.out
                rw [hx2] at h6
                exact ⟨⟨vs', by rw [appK_zero]; exact h6⟩⟩
              have hx3 : Value.slice x' l' y' = .slice (some ⟨g, 0, none⟩) R3.files.length gc := hx2
              obtain ⟨FL3, hFL3⟩ : ∃ FL3, FL3 = R3.files.length := ⟨_, rfl⟩
              have HFL2 : Hid (R3.files.length = FL3) := hFL3.symm
              have hP64 : pl R'.files n < FL3 := by rw [hFL3]; exact hP2
              rw [← hFL3] at hlen3 hc1
              obtain ⟨P, hPe⟩ : ∃ P, P = pl R'.files n := ⟨_, rfl⟩
              have hlw3 : p < w3.heap.size := by rw [e3]; simpa [World.setCell] using l1
              clear e3 hrise3 hx1 hx2 hx3 hFL3 HNO HAT HR3 HEN0
              generalize pl R'.files n = PP at *
              subst hPe
              go_wp2_with fail
              rw [← HE3.out]
              refine Calls.mono HA3.out ?_
              rintro e w1 ⟨rfl, hw1⟩
              subst w1
              have hltP : decide ((P : Int) < 0) = false := decide_eq_false (by omega)
              go_wp2_with fail
              go_loopw [8] (fun vi wr => ∃ k : Nat, k ≤ Y ∧ vi = .int .i64 k ∧ Hid (ApK w p g gc fv vs R3 P hP2 ys k wr)) (fun vi _ => Y - (intOf vi).toNat)
              case atStart => exact ⟨0, Nat.zero_le _, rfl, HK⟩
              case round =>
                obtain ⟨k, hk, rfl, HI⟩ := hrel
                by_cases hlt : k < Y
                · have hlt' : k < ys.length := by rw [← HY.out]; exact hlt
                  have hne : ys ≠ [] := fun e => by rw [e] at hlt'; simp at hlt'
                  rcases HU3.out with h3 | ⟨ub, off, rfl, h3⟩
                  · exact absurd h3 hne
                  have hcell := h3 k hlt'
                  obtain ⟨x, L, y, x', y', w', d1, d2, d3, hrun, HN1, f1, d4, k1, k2, l1, l2, l3⟩ := HI.out.round hlt' HSM.out hcell (HAP.out hne ub rfl).2
                  rw [HFL2.out] at d1 k1 k2
                  generalize ys.getD k 0 = bb at *
                  clear hcell h3 HI hne
                  go_upto_region 16 with fail
                  have kA : (wr.drew.alloc (.cells #[.int .u8 bb] 5)).cell? ⟨p, 1, none⟩ = some (.slice (some ⟨g, 0, none⟩) FL3 gc) ∧ (wr.drew.alloc (.cells #[.int .u8 bb] 5)).cell? ⟨ub, off + k, none⟩ = some (.int .u8 bb) := ⟨(World.cell?_alloc_lt _ _ _ l1).trans d1, (World.cell?_alloc_lt _ _ _ l3).trans d2⟩
                  have d3' : wr.drew.cell? ⟨g, P * 3 + 1, none⟩ = some (.slice x L y) := d3
                  have d3a : (wr.drew.alloc (.cells #[.int .u8 bb] 5)).cell? ⟨g, P * 3 + 1, none⟩ = some (.slice x L y) := (World.cell?_alloc_lt _ _ _ l2).trans d3
                  refine wp_region_held_drew (S := (fun w' => w'.cell? ⟨p, 1, none⟩ = some (.slice (some ⟨g, 0, none⟩) FL3 gc) ∧ w'.cell? ⟨ub, off + k, none⟩ = some (.int .u8 bb))) (by kernel_rfl) ?_ (fun hHeld => ?_)
                  · exact ⟨d1, d2⟩
                  refine wpAnyH_take (i := 0) (oi := { dst := some 69, op := Op.move (Operand.tmp 0), type := 31, pos := "ref.go:157", after := #[], guard := none }) (v := ?_) rfl (by kernel_rfl) (by kernel_rfl) (by kernel_rfl) (fun _ _ _ h => h) (Or.inl ⟨by rfl, ?_⟩) (by assumption) ?_
                  rotate_left
                  · (intro w hSw; (try dsimp only at hSw); go_simp) <;> with_reducible rfl
                  try simp only [Act.put, List.setIfInBounds_toArray, List.set_cons_zero, List.set_cons_succ]
                  refine wpAnyH_take (i := 1) (oi := { dst := some 70, op := Op.nilCheck (Operand.tmp 69), type := 0, pos := "ref.go:157", after := #[{ on := 0, ground := Ground.data }], guard := none }) (v := ?_) rfl (by kernel_rfl) (by kernel_rfl) (by kernel_rfl) (fun _ _ _ h => h) (Or.inl ⟨by rfl, ?_⟩) (by assumption) ?_
                  rotate_left
                  · (intro w hSw; (try dsimp only at hSw); go_simp) <;> with_reducible rfl
                  try simp only [Act.put, List.setIfInBounds_toArray, List.set_cons_zero, List.set_cons_succ]
                  refine wpAnyH_take (i := 2) (oi := { dst := some 71, op := Op.fieldAddr 64 (Operand.tmp 70) 1, type := 0, pos := "ref.go:157", after := #[{ on := 1, ground := Ground.data }], guard := none }) (v := ?_) rfl (by kernel_rfl) (by kernel_rfl) (by kernel_rfl) (fun _ _ _ h => h) (Or.inl ⟨by rfl, ?_⟩) (by assumption) ?_
                  rotate_left
                  · (intro w hSw; (try dsimp only at hSw); go_simp) <;> with_reducible rfl
                  try simp only [Act.put, List.setIfInBounds_toArray, List.set_cons_zero, List.set_cons_succ]
                  refine wpAnyH_take (i := 3) (oi := { dst := some 72, op := Op.load 22 (Operand.tmp 71), type := 22, pos := "ref.go:157", after := #[{ on := 2, ground := Ground.data }], guard := none }) (v := ?_) rfl (by kernel_rfl) (by kernel_rfl) (by kernel_rfl) (fun _ _ _ h => h) (Or.inl ⟨by rfl, ?_⟩) (by assumption) ?_
                  rotate_left
                  · (intro w hSw; (try dsimp only at hSw); go_simp) <;> with_reducible rfl
                  try simp only [Act.put, List.setIfInBounds_toArray, List.set_cons_zero, List.set_cons_succ]
                  refine wpAnyH_take (i := 4) (oi := { dst := some 73, op := Op.move (Operand.tmp 7), type := 3, pos := "ref.go:157", after := #[], guard := none }) (v := ?_) rfl (by kernel_rfl) (by kernel_rfl) (by kernel_rfl) (fun _ _ _ h => h) (Or.inl ⟨by rfl, ?_⟩) (by assumption) ?_
                  rotate_left
                  · (intro w hSw; (try dsimp only at hSw); go_simp) <;> with_reducible rfl
                  try simp only [Act.put, List.setIfInBounds_toArray, List.set_cons_zero, List.set_cons_succ]
                  refine wpAnyH_take (i := 5) (oi := { dst := some 74, op := Op.move (Operand.tmp 0), type := 31, pos := "ref.go:157", after := #[], guard := none }) (v := ?_) rfl (by kernel_rfl) (by kernel_rfl) (by kernel_rfl) (fun _ _ _ h => h) (Or.inl ⟨by rfl, ?_⟩) (by assumption) ?_
                  rotate_left
                  · (intro w hSw; (try dsimp only at hSw); go_simp) <;> with_reducible rfl
                  try simp only [Act.put, List.setIfInBounds_toArray, List.set_cons_zero, List.set_cons_succ]
                  refine wpAnyH_take (i := 6) (oi := { dst := some 75, op := Op.nilCheck (Operand.tmp 74), type := 0, pos := "ref.go:157", after := #[{ on := 5, ground := Ground.data }], guard := none }) (v := ?_) rfl (by kernel_rfl) (by kernel_rfl) (by kernel_rfl) (fun _ _ _ h => h) (Or.inl ⟨by rfl, ?_⟩) (by assumption) ?_
                  rotate_left
                  · (intro w hSw; (try dsimp only at hSw); go_simp) <;> with_reducible rfl
                  try simp only [Act.put, List.setIfInBounds_toArray, List.set_cons_zero, List.set_cons_succ]
                  refine wpAnyH_take (i := 7) (oi := { dst := some 76, op := Op.fieldAddr 64 (Operand.tmp 75) 1, type := 0, pos := "ref.go:157", after := #[{ on := 6, ground := Ground.data }], guard := none }) (v := ?_) rfl (by kernel_rfl) (by kernel_rfl) (by kernel_rfl) (fun _ _ _ h => h) (Or.inl ⟨by rfl, ?_⟩) (by assumption) ?_
                  rotate_left
                  · (intro w hSw; (try dsimp only at hSw); go_simp) <;> with_reducible rfl
                  try simp only [Act.put, List.setIfInBounds_toArray, List.set_cons_zero, List.set_cons_succ]
                  refine wpAnyH_take (i := 8) (oi := { dst := some 77, op := Op.load 22 (Operand.tmp 76), type := 22, pos := "ref.go:157", after := #[{ on := 7, ground := Ground.data }], guard := none }) (v := ?_) rfl (by kernel_rfl) (by kernel_rfl) (by kernel_rfl) (fun _ _ _ h => h) (Or.inl ⟨by rfl, ?_⟩) (by assumption) ?_
                  rotate_left
                  · (intro w hSw; (try dsimp only at hSw); go_simp) <;> with_reducible rfl
                  try simp only [Act.put, List.setIfInBounds_toArray, List.set_cons_zero, List.set_cons_succ]
                  refine wpAnyH_take (i := 9) (oi := { dst := some 78, op := Op.move (Operand.tmp 7), type := 3, pos := "ref.go:157", after := #[], guard := none }) (v := ?_) rfl (by kernel_rfl) (by kernel_rfl) (by kernel_rfl) (fun _ _ _ h => h) (Or.inl ⟨by rfl, ?_⟩) (by assumption) ?_
                  rotate_left
                  · (intro w hSw; (try dsimp only at hSw); go_simp) <;> with_reducible rfl
                  try simp only [Act.put, List.setIfInBounds_toArray, List.set_cons_zero, List.set_cons_succ]
                  refine wpAnyH_take (i := 10) (oi := { dst := some 79, op := Op.indexAddr 22 (Operand.tmp 77) (Operand.tmp 78), type := 0, pos := "ref.go:157", after := #[{ on := 8, ground := Ground.data }, { on := 9, ground := Ground.data }], guard := none }) (v := ?_) rfl (by kernel_rfl) (by kernel_rfl) (by kernel_rfl) (fun _ _ _ h => h) (Or.inl ⟨by rfl, ?_⟩) (by assumption) ?_
                  rotate_left
                  · (intro w hSw; (try dsimp only at hSw); go_simp) <;> with_reducible rfl
                  try simp only [Act.put, List.setIfInBounds_toArray, List.set_cons_zero, List.set_cons_succ]
                  refine wpAnyH_take (i := 11) (oi := { dst := some 80, op := Op.fieldAddr 38 (Operand.tmp 79) 1, type := 0, pos := "ref.go:157", after := #[{ on := 10, ground := Ground.data }], guard := none }) (v := ?_) rfl (by kernel_rfl) (by kernel_rfl) (by kernel_rfl) (fun _ _ _ h => h) (Or.inl ⟨by rfl, ?_⟩) (by assumption) ?_
                  rotate_left
                  · (intro w hSw; (try dsimp only at hSw); go_simp) <;> with_reducible rfl
                  try simp only [Act.put, List.setIfInBounds_toArray, List.set_cons_zero, List.set_cons_succ]
                  refine wpAnyH_take (i := 13) (oi := { dst := some 82, op := Op.move (Operand.tmp 2), type := 36, pos := "ref.go:157", after := #[], guard := none }) (v := ?_) rfl (by kernel_rfl) (by kernel_rfl) (by kernel_rfl) (fun _ _ _ h => h) (Or.inl ⟨by rfl, ?_⟩) (by assumption) ?_
                  rotate_left
                  · (intro w hSw; (try dsimp only at hSw); go_simp) <;> with_reducible rfl
                  try simp only [Act.put, List.setIfInBounds_toArray, List.set_cons_zero, List.set_cons_succ]
                  refine wpAnyH_take (i := 14) (oi := { dst := some 83, op := Op.move (Operand.tmp 8), type := 3, pos := "ref.go:157", after := #[], guard := none }) (v := ?_) rfl (by kernel_rfl) (by kernel_rfl) (by kernel_rfl) (fun _ _ _ h => h) (Or.inl ⟨by rfl, ?_⟩) (by assumption) ?_
                  rotate_left
                  · (intro w hSw; (try dsimp only at hSw); go_simp) <;> with_reducible rfl
                  try simp only [Act.put, List.setIfInBounds_toArray, List.set_cons_zero, List.set_cons_succ]
                  refine wpAnyH_take (i := 15) (oi := { dst := some 84, op := Op.indexAddr 36 (Operand.tmp 82) (Operand.tmp 83), type := 0, pos := "ref.go:157", after := #[{ on := 13, ground := Ground.data }, { on := 14, ground := Ground.data }], guard := none }) (v := ?_) rfl (by kernel_rfl) (by kernel_rfl) (by kernel_rfl) (fun _ _ _ h => h) (Or.inl ⟨by rfl, ?_⟩) (by assumption) ?_
                  rotate_left
                  · (intro w hSw; (try dsimp only at hSw); go_simp) <;> with_reducible rfl
                  try simp only [Act.put, List.setIfInBounds_toArray, List.set_cons_zero, List.set_cons_succ]
                  refine wpAnyH_take (i := 16) (oi := { dst := some 85, op := Op.load 5 (Operand.tmp 84), type := 5, pos := "ref.go:157", after := #[{ on := 15, ground := Ground.data }], guard := none }) (v := ?_) rfl (by kernel_rfl) (by kernel_rfl) (by kernel_rfl) (fun _ _ _ h => h) (Or.inl ⟨by rfl, ?_⟩) (by assumption) ?_
                  rotate_left
                  · (intro w hSw; (try dsimp only at hSw); go_simp) <;> with_reducible rfl
                  try simp only [Act.put, List.setIfInBounds_toArray, List.set_cons_zero, List.set_cons_succ]
                  refine wpAnyH_ready (rs := [12, 17]) (by kernel_rfl) (by simp) ?_
                  refine AllReadyH.cons (o := { dst := some 81, op := Op.load 36 (Operand.tmp 80), type := 36, pos := "ref.go:157", after := #[{ on := 11, ground := Ground.data }], guard := none }) rfl (fun K hK => ?_) (AllReadyH.cons (o := { dst := some 86, op := Op.buildSlice 36 1 #[(0, Operand.tmp 85)], type := 36, pos := "ref.go:157", after := #[{ on := 16, ground := Ground.data }], guard := none }) rfl (fun K hK => ?_) AllReadyH.nil)
                  · go_simp
                    refine hK.out _ _ (by assumption) (fun hHeld => ?_)
                    clear hK K
                    refine wpAnyH_ready (rs := [17]) (by kernel_rfl) (by simp) ?_
                    refine AllReadyH.cons (o := { dst := some 86, op := Op.buildSlice 36 1 #[(0, Operand.tmp 85)], type := 36, pos := "ref.go:157", after := #[{ on := 16, ground := Ground.data }], guard := none }) rfl (fun K hK => ?_) AllReadyH.nil
                    go_simp
                    refine hK.out _ _ kA (fun hHeld => ?_)
                    clear hK K
                    refine wpAnyH_ready (rs := [18]) (by kernel_rfl) (by simp) ?_
                    refine AllReadyH.cons (o := { dst := some 87, op := Op.call { callee := Callee.builtin Builtin.append, args := #[Operand.tmp 81, Operand.tmp 86], argTypes := #[36, 36] }, type := 36, pos := "ref.go:157", after := #[{ on := 12, ground := Ground.data }, { on := 17, ground := Ground.data }], guard := none }) rfl (fun K hK => ?_) AllReadyH.nil
                    rw [if_pos (by rfl)]
                    refine wp_appB (.tmp 81) (.tmp 86) 36 rfl _ _ _ _ rfl rfl hrun ?_
                    try simp only [Act.put, List.setIfInBounds_toArray, List.set_cons_zero, List.set_cons_succ]
                    refine hK.out _ _ k1 (fun hHeld => ?_)
                    clear hK K
                    refine wpAnyH_take (i := 19) (oi := { dst := some 88, op := Op.indexAddr 22 (Operand.tmp 72) (Operand.tmp 73), type := 0, pos := "ref.go:157", after := #[{ on := 3, ground := Ground.data }, { on := 4, ground := Ground.data }, { on := 0, ground := Ground.phase }, { on := 1, ground := Ground.phase }, { on := 2, ground := Ground.phase }, { on := 3, ground := Ground.phase }, { on := 4, ground := Ground.phase }, { on := 5, ground := Ground.phase }, { on := 6, ground := Ground.phase }, { on := 7, ground := Ground.phase }, { on := 8, ground := Ground.phase }, { on := 9, ground := Ground.phase }, { on := 10, ground := Ground.phase }, { on := 11, ground := Ground.phase }, { on := 12, ground := Ground.phase }, { on := 13, ground := Ground.phase }, { on := 14, ground := Ground.phase }, { on := 15, ground := Ground.phase }, { on := 16, ground := Ground.phase }, { on := 17, ground := Ground.phase }, { on := 18, ground := Ground.phase }], guard := none }) (v := ?_) rfl (by kernel_rfl) (by kernel_rfl) (by kernel_rfl) (fun _ _ _ h => h) (Or.inl ⟨by rfl, ?_⟩) (by assumption) ?_
                    rotate_left
                    · (intro w hSw; (try dsimp only at hSw); go_simp) <;> with_reducible rfl
                    try simp only [Act.put, List.setIfInBounds_toArray, List.set_cons_zero, List.set_cons_succ]
                    refine wpAnyH_take (i := 20) (oi := { dst := some 89, op := Op.fieldAddr 38 (Operand.tmp 88) 1, type := 0, pos := "ref.go:157", after := #[{ on := 19, ground := Ground.data }, { on := 0, ground := Ground.phase }, { on := 1, ground := Ground.phase }, { on := 2, ground := Ground.phase }, { on := 3, ground := Ground.phase }, { on := 4, ground := Ground.phase }, { on := 5, ground := Ground.phase }, { on := 6, ground := Ground.phase }, { on := 7, ground := Ground.phase }, { on := 8, ground := Ground.phase }, { on := 9, ground := Ground.phase }, { on := 10, ground := Ground.phase }, { on := 11, ground := Ground.phase }, { on := 12, ground := Ground.phase }, { on := 13, ground := Ground.phase }, { on := 14, ground := Ground.phase }, { on := 15, ground := Ground.phase }, { on := 16, ground := Ground.phase }, { on := 17, ground := Ground.phase }, { on := 18, ground := Ground.phase }], guard := none }) (v := ?_) rfl (by kernel_rfl) (by kernel_rfl) (by kernel_rfl) (fun _ _ _ h => h) (Or.inl ⟨by rfl, ?_⟩) (by assumption) ?_
                    rotate_left
                    · (intro w hSw; (try dsimp only at hSw); go_simp) <;> with_reducible rfl
                    try simp only [Act.put, List.setIfInBounds_toArray, List.set_cons_zero, List.set_cons_succ]
                    refine wpAnyH_ready (rs := [21]) (by kernel_rfl) (by simp) ?_
                    refine AllReadyH.cons (o := { dst := none, op := Op.store 36 (Operand.tmp 89) (Operand.tmp 87), type := 0, pos := "ref.go:157", after := #[{ on := 20, ground := Ground.data }, { on := 18, ground := Ground.data }, { on := 18, ground := Ground.chain }, { on := 0, ground := Ground.phase }, { on := 1, ground := Ground.phase }, { on := 2, ground := Ground.phase }, { on := 3, ground := Ground.phase }, { on := 4, ground := Ground.phase }, { on := 5, ground := Ground.phase }, { on := 6, ground := Ground.phase }, { on := 7, ground := Ground.phase }, { on := 8, ground := Ground.phase }, { on := 9, ground := Ground.phase }, { on := 10, ground := Ground.phase }, { on := 11, ground := Ground.phase }, { on := 12, ground := Ground.phase }, { on := 13, ground := Ground.phase }, { on := 14, ground := Ground.phase }, { on := 15, ground := Ground.phase }, { on := 16, ground := Ground.phase }, { on := 17, ground := Ground.phase }, { on := 18, ground := Ground.phase }], guard := none }) rfl (fun K hK => ?_) AllReadyH.nil
                    go_simp
                    refine hK.out _ _ k2 (fun hHeld => ?_)
                    clear hK K
                    refine wpAnyH_done (by kernel_rfl) ?_ _
                    go_wp2_with fail
                    go_roundw
                    case rel => exact ⟨k + 1, by omega, by go_num, HN1⟩
                    case measure => simp [intOf]; omega
                  · go_simp
                    refine hK.out _ _ kA (fun hHeld => ?_)
                    clear hK K
                    refine wpAnyH_ready (rs := [12]) (by kernel_rfl) (by simp) ?_
                    refine AllReadyH.cons (o := { dst := some 81, op := Op.load 36 (Operand.tmp 80), type := 36, pos := "ref.go:157", after := #[{ on := 11, ground := Ground.data }], guard := none }) rfl (fun K hK => ?_) AllReadyH.nil
                    go_simp
                    refine hK.out _ _ (by assumption) (fun hHeld => ?_)
                    clear hK K
                    refine wpAnyH_ready (rs := [18]) (by kernel_rfl) (by simp) ?_
                    refine AllReadyH.cons (o := { dst := some 87, op := Op.call { callee := Callee.builtin Builtin.append, args := #[Operand.tmp 81, Operand.tmp 86], argTypes := #[36, 36] }, type := 36, pos := "ref.go:157", after := #[{ on := 12, ground := Ground.data }, { on := 17, ground := Ground.data }], guard := none }) rfl (fun K hK => ?_) AllReadyH.nil
                    rw [if_pos (by rfl)]
                    refine wp_appB (.tmp 81) (.tmp 86) 36 rfl _ _ _ _ rfl rfl hrun ?_
                    try simp only [Act.put, List.setIfInBounds_toArray, List.set_cons_zero, List.set_cons_succ]
                    refine hK.out _ _ k1 (fun hHeld => ?_)
                    clear hK K
                    refine wpAnyH_take (i := 19) (oi := { dst := some 88, op := Op.indexAddr 22 (Operand.tmp 72) (Operand.tmp 73), type := 0, pos := "ref.go:157", after := #[{ on := 3, ground := Ground.data }, { on := 4, ground := Ground.data }, { on := 0, ground := Ground.phase }, { on := 1, ground := Ground.phase }, { on := 2, ground := Ground.phase }, { on := 3, ground := Ground.phase }, { on := 4, ground := Ground.phase }, { on := 5, ground := Ground.phase }, { on := 6, ground := Ground.phase }, { on := 7, ground := Ground.phase }, { on := 8, ground := Ground.phase }, { on := 9, ground := Ground.phase }, { on := 10, ground := Ground.phase }, { on := 11, ground := Ground.phase }, { on := 12, ground := Ground.phase }, { on := 13, ground := Ground.phase }, { on := 14, ground := Ground.phase }, { on := 15, ground := Ground.phase }, { on := 16, ground := Ground.phase }, { on := 17, ground := Ground.phase }, { on := 18, ground := Ground.phase }], guard := none }) (v := ?_) rfl (by kernel_rfl) (by kernel_rfl) (by kernel_rfl) (fun _ _ _ h => h) (Or.inl ⟨by rfl, ?_⟩) (by assumption) ?_
                    rotate_left
                    · (intro w hSw; (try dsimp only at hSw); go_simp) <;> with_reducible rfl
                    try simp only [Act.put, List.setIfInBounds_toArray, List.set_cons_zero, List.set_cons_succ]
                    refine wpAnyH_take (i := 20) (oi := { dst := some 89, op := Op.fieldAddr 38 (Operand.tmp 88) 1, type := 0, pos := "ref.go:157", after := #[{ on := 19, ground := Ground.data }, { on := 0, ground := Ground.phase }, { on := 1, ground := Ground.phase }, { on := 2, ground := Ground.phase }, { on := 3, ground := Ground.phase }, { on := 4, ground := Ground.phase }, { on := 5, ground := Ground.phase }, { on := 6, ground := Ground.phase }, { on := 7, ground := Ground.phase }, { on := 8, ground := Ground.phase }, { on := 9, ground := Ground.phase }, { on := 10, ground := Ground.phase }, { on := 11, ground := Ground.phase }, { on := 12, ground := Ground.phase }, { on := 13, ground := Ground.phase }, { on := 14, ground := Ground.phase }, { on := 15, ground := Ground.phase }, { on := 16, ground := Ground.phase }, { on := 17, ground := Ground.phase }, { on := 18, ground := Ground.phase }], guard := none }) (v := ?_) rfl (by kernel_rfl) (by kernel_rfl) (by kernel_rfl) (fun _ _ _ h => h) (Or.inl ⟨by rfl, ?_⟩) (by assumption) ?_
                    rotate_left
                    · (intro w hSw; (try dsimp only at hSw); go_simp) <;> with_reducible rfl
                    try simp only [Act.put, List.setIfInBounds_toArray, List.set_cons_zero, List.set_cons_succ]
                    refine wpAnyH_ready (rs := [21]) (by kernel_rfl) (by simp) ?_
                    refine AllReadyH.cons (o := { dst := none, op := Op.store 36 (Operand.tmp 89) (Operand.tmp 87), type := 0, pos := "ref.go:157", after := #[{ on := 20, ground := Ground.data }, { on := 18, ground := Ground.data }, { on := 18, ground := Ground.chain }, { on := 0, ground := Ground.phase }, { on := 1, ground := Ground.phase }, { on := 2, ground := Ground.phase }, { on := 3, ground := Ground.phase }, { on := 4, ground := Ground.phase }, { on := 5, ground := Ground.phase }, { on := 6, ground := Ground.phase }, { on := 7, ground := Ground.phase }, { on := 8, ground := Ground.phase }, { on := 9, ground := Ground.phase }, { on := 10, ground := Ground.phase }, { on := 11, ground := Ground.phase }, { on := 12, ground := Ground.phase }, { on := 13, ground := Ground.phase }, { on := 14, ground := Ground.phase }, { on := 15, ground := Ground.phase }, { on := 16, ground := Ground.phase }, { on := 17, ground := Ground.phase }, { on := 18, ground := Ground.phase }], guard := none }) rfl (fun K hK => ?_) AllReadyH.nil
                    go_simp
                    refine hK.out _ _ k2 (fun hHeld => ?_)
                    clear hK K
                    refine wpAnyH_done (by kernel_rfl) ?_ _
                    go_wp2_with fail
                    go_roundw
                    case rel => exact ⟨k + 1, by omega, by go_num, HN1⟩
                    case measure => simp [intOf]; omega
                · obtain rfl : k = Y := by omega
                  have HZ : Hid _ := HI.out.turned
                  go_wp2_with fail
                  go_ret
                  have h10 := HZ.out
                  rw [HY.out] at h10
                  obtain ⟨vs', h11⟩ := h10
                  exact ⟨by rw [HEND.out.1]; rfl, _, _, by rw [HEND.out.2]; exact h11⟩
          · rw [if_neg hfull] at hr
            have hwr : IntKind.i64.wrap ((U : Int) + (Y : Int)) = (U : Int) + (Y : Int) := wrapI _ (by omega) (by omega)
            have hd2 : decide (R.room < IntKind.i64.wrap ((U : Int) + (Y : Int))) = true := decide_eq_true (by rw [hwr]; omega)
            have hd3 : R.room < IntKind.i64.wrap ((U : Int) + (Y : Int)) := by rw [hwr]; omega
            clear hwr
            have HR : Hid _ := hr
            clear hr hp hm hh ea
            go_enter Tryz.func71, Tryz.ntmps71
            go_wp2_with fail
            refine Calls.mono HA.out ?_
            rintro e w1 ⟨rfl, hw1⟩
            subst w1
            go_wp2_with fail
            refine Calls.mono HN.out ?_
            rintro e w1 ⟨rfl, hw1⟩
            subst w1
            go_upto_region 6 with fail
            go_region_held (fun w' => w'.cell? ⟨p, 0, none⟩ = some (.int .i64 R.room) ∧ w'.cell? ⟨p, 1, none⟩ = some (.slice fa FL fc)) (first | go_keep) (first | (go_at_call 26; refine Calls.mono HS.out ?_; rintro e w' ⟨rfl, hw'⟩; subst hw'))
            go_wp2_with fail
            go_ret
            exact ⟨by rw [HR.out]; rfl, _, _, by rw [HR.out]; exact (RdTo.refl HH.out.1).then (below_drewN (Below.refl _ _) 1)⟩
      · rw [hh, if_neg (by simp)] at hr
        have h1 := ((hasF_iff _ _).1 hh).1
        obtain ⟨P, hP⟩ : ∃ P, P = pl R.files n := ⟨_, rfl⟩
        have ea : atI R.files n = (P : Int) := by unfold atI; rw [hh, hP]; rfl
        rw [ea] at HA
        have hP0 : P < R.files.length := by rw [hP]; exact h1
        have hlt : decide ((P : Int) < 0) = false := decide_eq_false (by omega)
        have hP64 : P < FL := by rw [HFL.out]; exact hP0
        by_cases hfull : (Y : Int) ≤ R.room - U
        · rw [if_pos hfull] at hr
          have hwr : IntKind.i64.wrap ((U : Int) + (Y : Int)) = (U : Int) + (Y : Int) := wrapI _ (by omega) (by omega)
          have hd2 : decide (R.room < IntKind.i64.wrap ((U : Int) + (Y : Int))) = false := decide_eq_false (by rw [hwr]; omega)
          have hd3 : ¬ R.room < IntKind.i64.wrap ((U : Int) + (Y : Int)) := by rw [hwr]; omega
          clear hwr
          unfold RD.act at hr
          rw [if_pos rfl] at hr
          obtain ⟨q, R', hq⟩ : ∃ q R', R.write = (q, R') := ⟨_, _, rfl⟩
          have hwf := R.write_files
          rw [hq] at HW hr hwf
          have HR : Hid _ := hr
          have HWF : Hid (R'.files = R.files) := hwf
          have HPQ : Hid (P = pl R.files n ∧ hasF R.files n = true) := ⟨hP, hh⟩
          clear hr hq hwf hp hm hh ea h1 hP
          cases q
          · go_enter Tryz.func71, Tryz.ntmps71
            go_wp2_with fail
            refine Calls.mono HA.out ?_
            rintro e w1 ⟨rfl, hw1⟩
            subst w1
            go_wp2_with fail
            refine Calls.mono HN.out ?_
            rintro e w1 ⟨rfl, hw1⟩
            subst w1
            go_upto_region 6 with fail
            go_region_held (fun w' => w'.cell? ⟨p, 0, none⟩ = some (.int .i64 R.room) ∧ w'.cell? ⟨p, 1, none⟩ = some (.slice fa FL fc)) (first | go_keep) (first | (go_at_call 26; refine Calls.mono HS.out ?_; rintro e w' ⟨rfl, hw'⟩; subst hw'))
            go_wp2_with fail
            refine Calls.mono HW.out ?_
            rintro e w2 ⟨rfl, ht2⟩
            have H2 : Hid _ := ht2
            clear ht2
            go_wp2_with fail
            go_ret
            exact ⟨by rw [HR.out]; rfl, _, _, by rw [HR.out]; exact RdTo.after (below_drewN (Below.refl _ _) 1) H2.out⟩
          · go_enter Tryz.func71, Tryz.ntmps71
            go_wp2_with fail
            refine Calls.mono HA.out ?_
            rintro e w1 ⟨rfl, hw1⟩
            subst w1
            go_wp2_with fail
            refine Calls.mono HN.out ?_
            rintro e w1 ⟨rfl, hw1⟩
            subst w1
            go_upto_region 6 with fail
            go_region_held (fun w' => w'.cell? ⟨p, 0, none⟩ = some (.int .i64 R.room) ∧ w'.cell? ⟨p, 1, none⟩ = some (.slice fa FL fc)) (first | go_keep) (first | (go_at_call 26; refine Calls.mono HS.out ?_; rintro e w' ⟨rfl, hw'⟩; subst hw'))
            go_wp2_with fail
            refine Calls.mono HW.out ?_
            rintro e w2 ⟨rfl, ht2'⟩
            have ht2 : RdTo w p fv vs w2 R' fv vs := RdTo.after (below_drewN (Below.refl _ _) 1) ht2'
            clear ht2'
            have hP2 : P < R'.files.length := by rw [HWF.out]; exact hP0
            obtain ⟨g, c, u, e0, hc1, hc2, _⟩ := ht2.is.file P hP2
            unfold maxLen at hc2
            have hfc2 : fa = some ⟨g, 0, none⟩ ∧ fc = c := by
              have h6 := HFV.out
              rw [e0] at h6
              simp only [Value.slice.injEq] at h6
              exact ⟨h6.1.symm, h6.2.2.symm⟩
            obtain ⟨rfl, rfl⟩ := hfc2
            have HK : Hid (ApK w p g fc fv vs R' P hP2 ys 0 w2) := ⟨⟨vs, by rw [appK_zero, ← e0]; exact ht2⟩⟩
            have HSM : Hid (R'.files[P].bytes.length + ys.length ≤ 1000000000000) := by
              have h7 : R'.files[P].bytes.length ≤ U := by
                have h6 := len_used (List.getElem_mem hP2)
                have h5 : usedD R'.files = U := by rw [HWF.out, HUU.out]
                omega
              have h8 := HY.out
              show _ ≤ _
              omega
            have HFL2 : Hid (R'.files.length = FL) := by show _ = _; rw [HWF.out, HFL.out]
            have HEND : Hid (r.1 = 0 ∧ r.2 = { R' with files := appK R'.files P hP2 ys ys.length }) := by
              rw [HR.out]
              refine ⟨rfl, ?_⟩
              show ({ R' with files := appF R.files n ys } : RD) = _
              have h9 : appF R.files n ys = appK R'.files P hP2 ys ys.length := by
                unfold appF updF appK
                rw [if_pos HPQ.out.2, ← HPQ.out.1, List.getElem?_eq_getElem hP0, List.take_length]
                simp only [HWF.out]
              rw [h9]
            clear ht2 e0
            go_wp2_with fail
            go_loopw [8] (fun vi wr => ∃ k : Nat, k ≤ Y ∧ vi = .int .i64 k ∧ Hid (ApK w p g fc fv vs R' P hP2 ys k wr)) (fun vi _ => Y - (intOf vi).toNat)
            case atStart => exact ⟨0, Nat.zero_le _, rfl, HK⟩
            case round =>
              obtain ⟨k, hk, rfl, HI⟩ := hrel
              by_cases hlt : k < Y
              · have hlt' : k < ys.length := by rw [← HY.out]; exact hlt
                have hne : ys ≠ [] := fun e => by rw [e] at hlt'; simp at hlt'
                rcases HU3.out with h3 | ⟨ub, off, rfl, h3⟩
                · exact absurd h3 hne
                have hcell := h3 k hlt'
                obtain ⟨x, L, y, x', y', w', d1, d2, d3, hrun, HN1, f1, d4, k1, k2, l1, l2, l3⟩ := HI.out.round hlt' HSM.out hcell (HAP.out hne ub rfl).2
                rw [HFL2.out] at d1 k1 k2
                generalize ys.getD k 0 = bb at *
                clear hcell h3 HI hne
                go_upto_region 16 with fail
                have kA : (wr.drew.alloc (.cells #[.int .u8 bb] 5)).cell? ⟨p, 1, none⟩ = some (.slice (some ⟨g, 0, none⟩) FL fc) ∧ (wr.drew.alloc (.cells #[.int .u8 bb] 5)).cell? ⟨ub, off + k, none⟩ = some (.int .u8 bb) := ⟨(World.cell?_alloc_lt _ _ _ l1).trans d1, (World.cell?_alloc_lt _ _ _ l3).trans d2⟩
                have d3' : wr.drew.cell? ⟨g, P * 3 + 1, none⟩ = some (.slice x L y) := d3
                have d3a : (wr.drew.alloc (.cells #[.int .u8 bb] 5)).cell? ⟨g, P * 3 + 1, none⟩ = some (.slice x L y) := (World.cell?_alloc_lt _ _ _ l2).trans d3
                refine wp_region_held_drew (S := (fun w' => w'.cell? ⟨p, 1, none⟩ = some (.slice (some ⟨g, 0, none⟩) FL fc) ∧ w'.cell? ⟨ub, off + k, none⟩ = some (.int .u8 bb))) (by kernel_rfl) ?_ (fun hHeld => ?_)
                · exact ⟨d1, d2⟩
                refine wpAnyH_take (i := 0) (oi := { dst := some 69, op := Op.move (Operand.tmp 0), type := 31, pos := "ref.go:157", after := #[], guard := none }) (v := ?_) rfl (by kernel_rfl) (by kernel_rfl) (by kernel_rfl) (fun _ _ _ h => h) (Or.inl ⟨by rfl, ?_⟩) (by assumption) ?_
                rotate_left
                · (intro w hSw; (try dsimp only at hSw); go_simp) <;> with_reducible rfl
                try simp only [Act.put, List.setIfInBounds_toArray, List.set_cons_zero, List.set_cons_succ]
                refine wpAnyH_take (i := 1) (oi := { dst := some 70, op := Op.nilCheck (Operand.tmp 69), type := 0, pos := "ref.go:157", after := #[{ on := 0, ground := Ground.data }], guard := none }) (v := ?_) rfl (by kernel_rfl) (by kernel_rfl) (by kernel_rfl) (fun _ _ _ h => h) (Or.inl ⟨by rfl, ?_⟩) (by assumption) ?_
                rotate_left
                · (intro w hSw; (try dsimp only at hSw); go_simp) <;> with_reducible rfl
                try simp only [Act.put, List.setIfInBounds_toArray, List.set_cons_zero, List.set_cons_succ]
                refine wpAnyH_take (i := 2) (oi := { dst := some 71, op := Op.fieldAddr 64 (Operand.tmp 70) 1, type := 0, pos := "ref.go:157", after := #[{ on := 1, ground := Ground.data }], guard := none }) (v := ?_) rfl (by kernel_rfl) (by kernel_rfl) (by kernel_rfl) (fun _ _ _ h => h) (Or.inl ⟨by rfl, ?_⟩) (by assumption) ?_
                rotate_left
                · (intro w hSw; (try dsimp only at hSw); go_simp) <;> with_reducible rfl
                try simp only [Act.put, List.setIfInBounds_toArray, List.set_cons_zero, List.set_cons_succ]
                refine wpAnyH_take (i := 3) (oi := { dst := some 72, op := Op.load 22 (Operand.tmp 71), type := 22, pos := "ref.go:157", after := #[{ on := 2, ground := Ground.data }], guard := none }) (v := ?_) rfl (by kernel_rfl) (by kernel_rfl) (by kernel_rfl) (fun _ _ _ h => h) (Or.inl ⟨by rfl, ?_⟩) (by assumption) ?_
                rotate_left
                · (intro w hSw; (try dsimp only at hSw); go_simp) <;> with_reducible rfl
                try simp only [Act.put, List.setIfInBounds_toArray, List.set_cons_zero, List.set_cons_succ]
                refine wpAnyH_take (i := 4) (oi := { dst := some 73, op := Op.move (Operand.tmp 7), type := 3, pos := "ref.go:157", after := #[], guard := none }) (v := ?_) rfl (by kernel_rfl) (by kernel_rfl) (by kernel_rfl) (fun _ _ _ h => h) (Or.inl ⟨by rfl, ?_⟩) (by assumption) ?_
                rotate_left
                · (intro w hSw; (try dsimp only at hSw); go_simp) <;> with_reducible rfl
                try simp only [Act.put, List.setIfInBounds_toArray, List.set_cons_zero, List.set_cons_succ]
                refine wpAnyH_take (i := 5) (oi := { dst := some 74, op := Op.move (Operand.tmp 0), type := 31, pos := "ref.go:157", after := #[], guard := none }) (v := ?_) rfl (by kernel_rfl) (by kernel_rfl) (by kernel_rfl) (fun _ _ _ h => h) (Or.inl ⟨by rfl, ?_⟩) (by assumption) ?_
                rotate_left
                · (intro w hSw; (try dsimp only at hSw); go_simp) <;> with_reducible rfl
                try simp only [Act.put, List.setIfInBounds_toArray, List.set_cons_zero, List.set_cons_succ]
                refine wpAnyH_take (i := 6) (oi := { dst := some 75, op := Op.nilCheck (Operand.tmp 74), type := 0, pos := "ref.go:157", after := #[{ on := 5, ground := Ground.data }], guard := none }) (v := ?_) rfl (by kernel_rfl) (by kernel_rfl) (by kernel_rfl) (fun _ _ _ h => h) (Or.inl ⟨by rfl, ?_⟩) (by assumption) ?_
                rotate_left
                · (intro w hSw; (try dsimp only at hSw); go_simp) <;> with_reducible rfl
                try simp only [Act.put, List.setIfInBounds_toArray, List.set_cons_zero, List.set_cons_succ]
                refine wpAnyH_take (i := 7) (oi := { dst := some 76, op := Op.fieldAddr 64 (Operand.tmp 75) 1, type := 0, pos := "ref.go:157", after := #[{ on := 6, ground := Ground.data }], guard := none }) (v := ?_) rfl (by kernel_rfl) (by kernel_rfl) (by kernel_rfl) (fun _ _ _ h => h) (Or.inl ⟨by rfl, ?_⟩) (by assumption) ?_
                rotate_left
                · (intro w hSw; (try dsimp only at hSw); go_simp) <;> with_reducible rfl
                try simp only [Act.put, List.setIfInBounds_toArray, List.set_cons_zero, List.set_cons_succ]
                refine wpAnyH_take (i := 8) (oi := { dst := some 77, op := Op.load 22 (Operand.tmp 76), type := 22, pos := "ref.go:157", after := #[{ on := 7, ground := Ground.data }], guard := none }) (v := ?_) rfl (by kernel_rfl) (by kernel_rfl) (by kernel_rfl) (fun _ _ _ h => h) (Or.inl ⟨by rfl, ?_⟩) (by assumption) ?_
                rotate_left
                · (intro w hSw; (try dsimp only at hSw); go_simp) <;> with_reducible rfl
                try simp only [Act.put, List.setIfInBounds_toArray, List.set_cons_zero, List.set_cons_succ]
                refine wpAnyH_take (i := 9) (oi := { dst := some 78, op := Op.move (Operand.tmp 7), type := 3, pos := "ref.go:157", after := #[], guard := none }) (v := ?_) rfl (by kernel_rfl) (by kernel_rfl) (by kernel_rfl) (fun _ _ _ h => h) (Or.inl ⟨by rfl, ?_⟩) (by assumption) ?_
                rotate_left
                · (intro w hSw; (try dsimp only at hSw); go_simp) <;> with_reducible rfl
                try simp only [Act.put, List.setIfInBounds_toArray, List.set_cons_zero, List.set_cons_succ]
                refine wpAnyH_take (i := 10) (oi := { dst := some 79, op := Op.indexAddr 22 (Operand.tmp 77) (Operand.tmp 78), type := 0, pos := "ref.go:157", after := #[{ on := 8, ground := Ground.data }, { on := 9, ground := Ground.data }], guard := none }) (v := ?_) rfl (by kernel_rfl) (by kernel_rfl) (by kernel_rfl) (fun _ _ _ h => h) (Or.inl ⟨by rfl, ?_⟩) (by assumption) ?_
                rotate_left
                · (intro w hSw; (try dsimp only at hSw); go_simp) <;> with_reducible rfl
                try simp only [Act.put, List.setIfInBounds_toArray, List.set_cons_zero, List.set_cons_succ]
                refine wpAnyH_take (i := 11) (oi := { dst := some 80, op := Op.fieldAddr 38 (Operand.tmp 79) 1, type := 0, pos := "ref.go:157", after := #[{ on := 10, ground := Ground.data }], guard := none }) (v := ?_) rfl (by kernel_rfl) (by kernel_rfl) (by kernel_rfl) (fun _ _ _ h => h) (Or.inl ⟨by rfl, ?_⟩) (by assumption) ?_
                rotate_left
                · (intro w hSw; (try dsimp only at hSw); go_simp) <;> with_reducible rfl
                try simp only [Act.put, List.setIfInBounds_toArray, List.set_cons_zero, List.set_cons_succ]
                refine wpAnyH_take (i := 13) (oi := { dst := some 82, op := Op.move (Operand.tmp 2), type := 36, pos := "ref.go:157", after := #[], guard := none }) (v := ?_) rfl (by kernel_rfl) (by kernel_rfl) (by kernel_rfl) (fun _ _ _ h => h) (Or.inl ⟨by rfl, ?_⟩) (by assumption) ?_
                rotate_left
                · (intro w hSw; (try dsimp only at hSw); go_simp) <;> with_reducible rfl
                try simp only [Act.put, List.setIfInBounds_toArray, List.set_cons_zero, List.set_cons_succ]
                refine wpAnyH_take (i := 14) (oi := { dst := some 83, op := Op.move (Operand.tmp 8), type := 3, pos := "ref.go:157", after := #[], guard := none }) (v := ?_) rfl (by kernel_rfl) (by kernel_rfl) (by kernel_rfl) (fun _ _ _ h => h) (Or.inl ⟨by rfl, ?_⟩) (by assumption) ?_
                rotate_left
                · (intro w hSw; (try dsimp only at hSw); go_simp) <;> with_reducible rfl
                try simp only [Act.put, List.setIfInBounds_toArray, List.set_cons_zero, List.set_cons_succ]
                refine wpAnyH_take (i := 15) (oi := { dst := some 84, op := Op.indexAddr 36 (Operand.tmp 82) (Operand.tmp 83), type := 0, pos := "ref.go:157", after := #[{ on := 13, ground := Ground.data }, { on := 14, ground := Ground.data }], guard := none }) (v := ?_) rfl (by kernel_rfl) (by kernel_rfl) (by kernel_rfl) (fun _ _ _ h => h) (Or.inl ⟨by rfl, ?_⟩) (by assumption) ?_
                rotate_left
                · (intro w hSw; (try dsimp only at hSw); go_simp) <;> with_reducible rfl
                try simp only [Act.put, List.setIfInBounds_toArray, List.set_cons_zero, List.set_cons_succ]
                refine wpAnyH_take (i := 16) (oi := { dst := some 85, op := Op.load 5 (Operand.tmp 84), type := 5, pos := "ref.go:157", after := #[{ on := 15, ground := Ground.data }], guard := none }) (v := ?_) rfl (by kernel_rfl) (by kernel_rfl) (by kernel_rfl) (fun _ _ _ h => h) (Or.inl ⟨by rfl, ?_⟩) (by assumption) ?_
                rotate_left
                · (intro w hSw; (try dsimp only at hSw); go_simp) <;> with_reducible rfl
                try simp only [Act.put, List.setIfInBounds_toArray, List.set_cons_zero, List.set_cons_succ]
                refine wpAnyH_ready (rs := [12, 17]) (by kernel_rfl) (by simp) ?_
                refine AllReadyH.cons (o := { dst := some 81, op := Op.load 36 (Operand.tmp 80), type := 36, pos := "ref.go:157", after := #[{ on := 11, ground := Ground.data }], guard := none }) rfl (fun K hK => ?_) (AllReadyH.cons (o := { dst := some 86, op := Op.buildSlice 36 1 #[(0, Operand.tmp 85)], type := 36, pos := "ref.go:157", after := #[{ on := 16, ground := Ground.data }], guard := none }) rfl (fun K hK => ?_) AllReadyH.nil)
                · go_simp
                  refine hK.out _ _ (by assumption) (fun hHeld => ?_)
                  clear hK K
                  refine wpAnyH_ready (rs := [17]) (by kernel_rfl) (by simp) ?_
                  refine AllReadyH.cons (o := { dst := some 86, op := Op.buildSlice 36 1 #[(0, Operand.tmp 85)], type := 36, pos := "ref.go:157", after := #[{ on := 16, ground := Ground.data }], guard := none }) rfl (fun K hK => ?_) AllReadyH.nil
                  go_simp
                  refine hK.out _ _ kA (fun hHeld => ?_)
                  clear hK K
                  refine wpAnyH_ready (rs := [18]) (by kernel_rfl) (by simp) ?_
                  refine AllReadyH.cons (o := { dst := some 87, op := Op.call { callee := Callee.builtin Builtin.append, args := #[Operand.tmp 81, Operand.tmp 86], argTypes := #[36, 36] }, type := 36, pos := "ref.go:157", after := #[{ on := 12, ground := Ground.data }, { on := 17, ground := Ground.data }], guard := none }) rfl (fun K hK => ?_) AllReadyH.nil
                  rw [if_pos (by rfl)]
                  refine wp_appB (.tmp 81) (.tmp 86) 36 rfl _ _ _ _ rfl rfl hrun ?_
                  try simp only [Act.put, List.setIfInBounds_toArray, List.set_cons_zero, List.set_cons_succ]
                  refine hK.out _ _ k1 (fun hHeld => ?_)
                  clear hK K
                  refine wpAnyH_take (i := 19) (oi := { dst := some 88, op := Op.indexAddr 22 (Operand.tmp 72) (Operand.tmp 73), type := 0, pos := "ref.go:157", after := #[{ on := 3, ground := Ground.data }, { on := 4, ground := Ground.data }, { on := 0, ground := Ground.phase }, { on := 1, ground := Ground.phase }, { on := 2, ground := Ground.phase }, { on := 3, ground := Ground.phase }, { on := 4, ground := Ground.phase }, { on := 5, ground := Ground.phase }, { on := 6, ground := Ground.phase }, { on := 7, ground := Ground.phase }, { on := 8, ground := Ground.phase }, { on := 9, ground := Ground.phase }, { on := 10, ground := Ground.phase }, { on := 11, ground := Ground.phase }, { on := 12, ground := Ground.phase }, { on := 13, ground := Ground.phase }, { on := 14, ground := Ground.phase }, { on := 15, ground := Ground.phase }, { on := 16, ground := Ground.phase }, { on := 17, ground := Ground.phase }, { on := 18, ground := Ground.phase }], guard := none }) (v := ?_) rfl (by kernel_rfl) (by kernel_rfl) (by kernel_rfl) (fun _ _ _ h => h) (Or.inl ⟨by rfl, ?_⟩) (by assumption) ?_
                  rotate_left
                  · (intro w hSw; (try dsimp only at hSw); go_simp) <;> with_reducible rfl
                  try simp only [Act.put, List.setIfInBounds_toArray, List.set_cons_zero, List.set_cons_succ]
                  refine wpAnyH_take (i := 20) (oi := { dst := some 89, op := Op.fieldAddr 38 (Operand.tmp 88) 1, type := 0, pos := "ref.go:157", after := #[{ on := 19, ground := Ground.data }, { on := 0, ground := Ground.phase }, { on := 1, ground := Ground.phase }, { on := 2, ground := Ground.phase }, { on := 3, ground := Ground.phase }, { on := 4, ground := Ground.phase }, { on := 5, ground := Ground.phase }, { on := 6, ground := Ground.phase }, { on := 7, ground := Ground.phase }, { on := 8, ground := Ground.phase }, { on := 9, ground := Ground.phase }, { on := 10, ground := Ground.phase }, { on := 11, ground := Ground.phase }, { on := 12, ground := Ground.phase }, { on := 13, ground := Ground.phase }, { on := 14, ground := Ground.phase }, { on := 15, ground := Ground.phase }, { on := 16, ground := Ground.phase }, { on := 17, ground := Ground.phase }, { on := 18, ground := Ground.phase }], guard := none }) (v := ?_) rfl (by kernel_rfl) (by kernel_rfl) (by kernel_rfl) (fun _ _ _ h => h) (Or.inl ⟨by rfl, ?_⟩) (by assumption) ?_
                  rotate_left
                  · (intro w hSw; (try dsimp only at hSw); go_simp) <;> with_reducible rfl
                  try simp only [Act.put, List.setIfInBounds_toArray, List.set_cons_zero, List.set_cons_succ]
                  refine wpAnyH_ready (rs := [21]) (by kernel_rfl) (by simp) ?_
                  refine AllReadyH.cons (o := { dst := none, op := Op.store 36 (Operand.tmp 89) (Operand.tmp 87), type := 0, pos := "ref.go:157", after := #[{ on := 20, ground := Ground.data }, { on := 18, ground := Ground.data }, { on := 18, ground := Ground.chain }, { on := 0, ground := Ground.phase }, { on := 1, ground := Ground.phase }, { on := 2, ground := Ground.phase }, { on := 3, ground := Ground.phase }, { on := 4, ground := Ground.phase }, { on := 5, ground := Ground.phase }, { on := 6, ground := Ground.phase }, { on := 7, ground := Ground.phase }, { on := 8, ground := Ground.phase }, { on := 9, ground := Ground.phase }, { on := 10, ground := Ground.phase }, { on := 11, ground := Ground.phase }, { on := 12, ground := Ground.phase }, { on := 13, ground := Ground.phase }, { on := 14, ground := Ground.phase }, { on := 15, ground := Ground.phase }, { on := 16, ground := Ground.phase }, { on := 17, ground := Ground.phase }, { on := 18, ground := Ground.phase }], guard := none }) rfl (fun K hK => ?_) AllReadyH.nil
                  go_simp
                  refine hK.out _ _ k2 (fun hHeld => ?_)
                  clear hK K
                  refine wpAnyH_done (by kernel_rfl) ?_ _
                  go_wp2_with fail
                  go_roundw
                  case rel => exact ⟨k + 1, by omega, by go_num, HN1⟩
                  case measure => simp [intOf]; omega
                · go_simp
                  refine hK.out _ _ kA (fun hHeld => ?_)
                  clear hK K
                  refine wpAnyH_ready (rs := [12]) (by kernel_rfl) (by simp) ?_
                  refine AllReadyH.cons (o := { dst := some 81, op := Op.load 36 (Operand.tmp 80), type := 36, pos := "ref.go:157", after := #[{ on := 11, ground := Ground.data }], guard := none }) rfl (fun K hK => ?_) AllReadyH.nil
                  go_simp
                  refine hK.out _ _ (by assumption) (fun hHeld => ?_)
                  clear hK K
                  refine wpAnyH_ready (rs := [18]) (by kernel_rfl) (by simp) ?_
                  refine AllReadyH.cons (o := { dst := some 87, op := Op.call { callee := Callee.builtin Builtin.append, args := #[Operand.tmp 81, Operand.tmp 86], argTypes := #[36, 36] }, type := 36, pos := "ref.go:157", after := #[{ on := 12, ground := Ground.data }, { on := 17, ground := Ground.data }], guard := none }) rfl (fun K hK => ?_) AllReadyH.nil
                  rw [if_pos (by rfl)]
                  refine wp_appB (.tmp 81) (.tmp 86) 36 rfl _ _ _ _ rfl rfl hrun ?_
                  try simp only [Act.put, List.setIfInBounds_toArray, List.set_cons_zero, List.set_cons_succ]
                  refine hK.out _ _ k1 (fun hHeld => ?_)
                  clear hK K
                  refine wpAnyH_take (i := 19) (oi := { dst := some 88, op := Op.indexAddr 22 (Operand.tmp 72) (Operand.tmp 73), type := 0, pos := "ref.go:157", after := #[{ on := 3, ground := Ground.data }, { on := 4, ground := Ground.data }, { on := 0, ground := Ground.phase }, { on := 1, ground := Ground.phase }, { on := 2, ground := Ground.phase }, { on := 3, ground := Ground.phase }, { on := 4, ground := Ground.phase }, { on := 5, ground := Ground.phase }, { on := 6, ground := Ground.phase }, { on := 7, ground := Ground.phase }, { on := 8, ground := Ground.phase }, { on := 9, ground := Ground.phase }, { on := 10, ground := Ground.phase }, { on := 11, ground := Ground.phase }, { on := 12, ground := Ground.phase }, { on := 13, ground := Ground.phase }, { on := 14, ground := Ground.phase }, { on := 15, ground := Ground.phase }, { on := 16, ground := Ground.phase }, { on := 17, ground := Ground.phase }, { on := 18, ground := Ground.phase }], guard := none }) (v := ?_) rfl (by kernel_rfl) (by kernel_rfl) (by kernel_rfl) (fun _ _ _ h => h) (Or.inl ⟨by rfl, ?_⟩) (by assumption) ?_
                  rotate_left
                  · (intro w hSw; (try dsimp only at hSw); go_simp) <;> with_reducible rfl
                  try simp only [Act.put, List.setIfInBounds_toArray, List.set_cons_zero, List.set_cons_succ]
                  refine wpAnyH_take (i := 20) (oi := { dst := some 89, op := Op.fieldAddr 38 (Operand.tmp 88) 1, type := 0, pos := "ref.go:157", after := #[{ on := 19, ground := Ground.data }, { on := 0, ground := Ground.phase }, { on := 1, ground := Ground.phase }, { on := 2, ground := Ground.phase }, { on := 3, ground := Ground.phase }, { on := 4, ground := Ground.phase }, { on := 5, ground := Ground.phase }, { on := 6, ground := Ground.phase }, { on := 7, ground := Ground.phase }, { on := 8, ground := Ground.phase }, { on := 9, ground := Ground.phase }, { on := 10, ground := Ground.phase }, { on := 11, ground := Ground.phase }, { on := 12, ground := Ground.phase }, { on := 13, ground := Ground.phase }, { on := 14, ground := Ground.phase }, { on := 15, ground := Ground.phase }, { on := 16, ground := Ground.phase }, { on := 17, ground := Ground.phase }, { on := 18, ground := Ground.phase }], guard := none }) (v := ?_) rfl (by kernel_rfl) (by kernel_rfl) (by kernel_rfl) (fun _ _ _ h => h) (Or.inl ⟨by rfl, ?_⟩) (by assumption) ?_
                  rotate_left
                  · (intro w hSw; (try dsimp only at hSw); go_simp) <;> with_reducible rfl
                  try simp only [Act.put, List.setIfInBounds_toArray, List.set_cons_zero, List.set_cons_succ]
                  refine wpAnyH_ready (rs := [21]) (by kernel_rfl) (by simp) ?_
                  refine AllReadyH.cons (o := { dst := none, op := Op.store 36 (Operand.tmp 89) (Operand.tmp 87), type := 0, pos := "ref.go:157", after := #[{ on := 20, ground := Ground.data }, { on := 18, ground := Ground.data }, { on := 18, ground := Ground.chain }, { on := 0, ground := Ground.phase }, { on := 1, ground := Ground.phase }, { on := 2, ground := Ground.phase }, { on := 3, ground := Ground.phase }, { on := 4, ground := Ground.phase }, { on := 5, ground := Ground.phase }, { on := 6, ground := Ground.phase }, { on := 7, ground := Ground.phase }, { on := 8, ground := Ground.phase }, { on := 9, ground := Ground.phase }, { on := 10, ground := Ground.phase }, { on := 11, ground := Ground.phase }, { on := 12, ground := Ground.phase }, { on := 13, ground := Ground.phase }, { on := 14, ground := Ground.phase }, { on := 15, ground := Ground.phase }, { on := 16, ground := Ground.phase }, { on := 17, ground := Ground.phase }, { on := 18, ground := Ground.phase }], guard := none }) rfl (fun K hK => ?_) AllReadyH.nil
                  go_simp
                  refine hK.out _ _ k2 (fun hHeld => ?_)
                  clear hK K
                  refine wpAnyH_done (by kernel_rfl) ?_ _
                  go_wp2_with fail
                  go_roundw
                  case rel => exact ⟨k + 1, by omega, by go_num, HN1⟩
                  case measure => simp [intOf]; omega
              · obtain rfl : k = Y := by omega
                have HZ : Hid _ := HI.out.turned
                go_wp2_with fail
                go_ret
                have h10 := HZ.out
                rw [HY.out] at h10
                obtain ⟨vs', h11⟩ := h10
                exact ⟨by rw [HEND.out.1]; rfl, _, _, by rw [HEND.out.2]; exact h11⟩
        · rw [if_neg hfull] at hr
          have hwr : IntKind.i64.wrap ((U : Int) + (Y : Int)) = (U : Int) + (Y : Int) := wrapI _ (by omega) (by omega)
          have hd2 : decide (R.room < IntKind.i64.wrap ((U : Int) + (Y : Int))) = true := decide_eq_true (by rw [hwr]; omega)
          have hd3 : R.room < IntKind.i64.wrap ((U : Int) + (Y : Int)) := by rw [hwr]; omega
          clear hwr
          have HR : Hid _ := hr
          clear hr hp hm hh ea h1 hP
          go_enter Tryz.func71, Tryz.ntmps71
          go_wp2_with fail
          refine Calls.mono HA.out ?_
          rintro e w1 ⟨rfl, hw1⟩
          subst w1
          go_wp2_with fail
          refine Calls.mono HN.out ?_
          rintro e w1 ⟨rfl, hw1⟩
          subst w1
          go_upto_region 6 with fail
          go_region_held (fun w' => w'.cell? ⟨p, 0, none⟩ = some (.int .i64 R.room) ∧ w'.cell? ⟨p, 1, none⟩ = some (.slice fa FL fc)) (first | go_keep) (first | (go_at_call 26; refine Calls.mono HS.out ?_; rintro e w' ⟨rfl, hw'⟩; subst hw'))
          go_wp2_with fail
          go_ret
          exact ⟨by rw [HR.out]; rfl, _, _, by rw [HR.out]; exact (RdTo.refl HH.out.1).then (below_drewN (Below.refl _ _) 1)⟩
end Go.Proofs.YtdhnbgeijfgfaaaGreatDoor
