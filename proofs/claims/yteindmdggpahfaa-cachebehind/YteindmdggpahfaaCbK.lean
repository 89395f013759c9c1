/- The walk of CacheBehind. -/
import Derived.Test.YteindmdggpahfaaCbL
import Derived.Test.YteindmdggpahfaaEqTs
import Derived.Test.YteindmdggpahfaaCaB
import Derived.Test.YteindmdggpahfaaLargeT
namespace Go.Proofs.Yteindmdggpahfaa
open Go.RowKit
set_option maxRecDepth 8000

theorem ix16 (b off len cap q : Nat) (h : q < len) (W : World) : (Instr.indexAt 25 (.slice (some ⟨b, off, none⟩) len cap) (.int .i64 (q : Int))).run Try.prog W = .ok (.pointer (some ⟨b, off + q * 16, none⟩)) W := by
  have ht : Try.prog.underlying 25 = some (.slice (Try.prog.elem 25)) := by kernel_rfl
  have hs : ∀ w, (sizeOf (Try.prog.elem 25)).run Try.prog w = .ok 16 w := fun w => by kernel_rfl
  rw [run_indexAt_slice (h := ht), if_pos (by omega), hs]
  simp [Addr.add]

set_option maxHeartbeats 4000000 in
theorem behind_walk (most : Int) (se sn : Int) (v : Value) (l : List TxD) (ze zn : Int) (w : World) (h : SeesTxs w v l) (_hl : l.length ≤ reachBytes) (hg : ∀ t ∈ l, t.good) (hm : -9223372036854775808 ≤ most ∧ most ≤ 9223372036854775807) (_hs : (0 ≤ se ∧ se ≤ 4294967295) ∧ 0 ≤ sn ∧ sn ≤ 4294967295) (_hz : (0 ≤ ze ∧ ze ≤ 4294967295) ∧ 0 ≤ zn ∧ zn ≤ 4294967295) :
    Calls Try.prog 3 #[.int .i64 most, zx se sn, v, zx ze zn] w fun e w' => e = .returned (.bool true) ∧ Below w.heap.size w w' := by
  obtain ⟨ao, cap, rfl, hlc, hcm⟩ := txs_shape h
  unfold maxLen at hcm
  have H : Hid (SeesTxs w (.slice ao l.length cap) l ∧ ∀ t ∈ l, t.good) := ⟨h, hg⟩
  obtain ⟨V, hV⟩ : ∃ V, V = (w.alloc (.cells #[.int .u32 se, .int .u32 sn] 24)).alloc (.cells #[.int .u32 ze, .int .u32 zn] 24) := ⟨_, rfl⟩
  have hbV : Below w.heap.size w V := by rw [hV]; exact two_alloc _ _ _
  have r0 : V.heap[w.heap.size]? = some (.cells #[.int .u32 se, .int .u32 sn] 24 (0, 0)) := by rw [hV, Below.heap_alloc _ _ _ (by simp)]; exact heap_alloc_new _ _
  have r1 : V.heap[w.heap.size + 1]? = some (.cells #[.int .u32 ze, .int .u32 zn] 24 (0, 0)) := by rw [hV]; have := heap_alloc_new (w.alloc (.cells #[.int .u32 se, .int .u32 sn] 24)) (.cells #[.int .u32 ze, .int .u32 zn] 24 (0, 0)); simpa using this
  have HV : Hid (V = (w.alloc (.cells #[.int .u32 se, .int .u32 sn] 24)).alloc (.cells #[.int .u32 ze, .int .u32 zn] 24)) := hV
  have H0 : Hid (Below w.heap.size w V ∧ V.heap[w.heap.size]? = some (.cells #[.int .u32 se, .int .u32 sn] 24 (0, 0)) ∧ V.heap[w.heap.size + 1]? = some (.cells #[.int .u32 ze, .int .u32 zn] 24 (0, 0))) := ⟨hbV, r0, r1⟩
  clear h hg hV hbV r0 r1
  go_enter Try.func3, Try.ntmps3
  go_wp2_with fail
  go_at_call 4
  rw [← HV.out]
  refine (caWorks_any V).mono ?_
  rintro e w1 ⟨rfl, b1⟩
  have H1 : Hid (Below w.heap.size w w1 ∧ w1.heap[w.heap.size]? = some (.cells #[.int .u32 se, .int .u32 sn] 24 (0, 0)) ∧ w1.heap[w.heap.size + 1]? = some (.cells #[.int .u32 ze, .int .u32 zn] 24 (0, 0))) := ⟨H0.out.1.trans (b1.mono H0.out.1.size), (b1.block _ (lt_of_block H0.out.2.1)).trans H0.out.2.1, (b1.block _ (lt_of_block H0.out.2.2)).trans H0.out.2.2⟩
  clear b1 H0 HV
  go_wp2_with fail
  go_at_call 5
  refine (largeTxns_any _ l w1 (H.out.1.below H1.out.1 (Nat.le_refl _)) H.out.2).mono ?_
  rintro e w2 ⟨bl, rfl, hlg, b2⟩
  have H2 : Hid (Below w.heap.size w w2 ∧ w2.heap[w.heap.size]? = some (.cells #[.int .u32 se, .int .u32 sn] 24 (0, 0)) ∧ w2.heap[w.heap.size + 1]? = some (.cells #[.int .u32 ze, .int .u32 zn] 24 (0, 0))) := ⟨H1.out.1.trans (b2.mono H1.out.1.size), (b2.block _ (lt_of_block H1.out.2.1)).trans H1.out.2.1, (b2.block _ (lt_of_block H1.out.2.2)).trans H1.out.2.2⟩
  clear b2 H1
  cases bl
  case true =>
    clear hlg
    go_wp2
    go_ret
    exact ⟨rfl, H2.out.1⟩
  case false =>
    obtain ⟨hl6, hpa⟩ := hlg rfl
    have HP : Hid (∀ t ∈ l, t.rq.parts ≤ 20000) := hpa
    clear hlg hpa
    go_wp2_with fail
    go_at_call 7
    refine (copyTxnsF_any _ l w2 (H.out.1.below H2.out.1 (Nat.le_refl _)) hl6 HP.out).mono ?_
    rintro e w3 ⟨v3, es, rfl, hfu, hro, b3⟩
    have H3 : Hid (Below w.heap.size w w3 ∧ w3.heap[w.heap.size]? = some (.cells #[.int .u32 se, .int .u32 sn] 24 (0, 0)) ∧ w3.heap[w.heap.size + 1]? = some (.cells #[.int .u32 ze, .int .u32 zn] 24 (0, 0)) ∧ SeesTxs w3 v3 l) := ⟨H2.out.1.trans (b3.mono H2.out.1.size), (b3.block _ (lt_of_block H2.out.2.1)).trans H2.out.2.1, (b3.block _ (lt_of_block H2.out.2.2)).trans H2.out.2.2, full_sees hfu hro⟩
    clear b3 H2 hfu hro
    go_wp2_with fail
    go_at_call 6
    refine (newTxns_any most v3 l w3 H3.out.2.2.2 hl6 HP.out).mono ?_
    rintro e w4 ⟨b4, hans⟩
    have H4 : Hid (Below w.heap.size w w4 ∧ w4.heap[w.heap.size]? = some (.cells #[.int .u32 se, .int .u32 sn] 24 (0, 0)) ∧ w4.heap[w.heap.size + 1]? = some (.cells #[.int .u32 ze, .int .u32 zn] 24 (0, 0))) := ⟨H3.out.1.trans (b4.mono H3.out.1.size), (b4.block _ (lt_of_block H3.out.2.1)).trans H3.out.2.1, (b4.block _ (lt_of_block H3.out.2.2.1)).trans H3.out.2.2.1⟩
    clear b4 H3
    rcases hans with ⟨er, rfl⟩ | ⟨m, p, css, rfl, hm64, hri, rfl, hpw, hts⟩
    · by_cases her : er = 0
      · subst her
        go_wp2
        go_ret
        exact ⟨rfl, H4.out.1⟩
      · go_wp2
        go_ret
        exact ⟨rfl, H4.out.1⟩
    · have HT : Hid (IsTs w4 p m css (lastN m l) ∧ (∀ t ∈ lastN m l, t.rq.parts ≤ 20000) ∧ rises 0 0 l = true) := ⟨hts, fun t ht => HP.out t (List.mem_of_mem_drop ht), hri⟩
      clear hts hri hpw
      have s0 := cell_of_row _ _ 0 _ _ _ H4.out.2.1
      have s1 := cell_of_row _ _ 1 _ _ _ H4.out.2.1
      simp at s0 s1
      obtain ⟨wA, hwA⟩ : ∃ wA, wA = w4.alloc (.cells #[.int .u32 se, .int .u32 sn] 24) := ⟨_, rfl⟩
      have bA : Below w4.heap.size w4 wA := by rw [hwA]; exact one_alloc _ _
      have rA : wA.heap[w4.heap.size]? = some (.cells #[.int .u32 se, .int .u32 sn] 24 (0, 0)) := by rw [hwA]; exact heap_alloc_new _ _
      have HA : Hid (wA = w4.alloc (.cells #[.int .u32 se, .int .u32 sn] 24)) := hwA
      have l12 : w.heap.size + 1 < w4.heap.size := lt_of_block H4.out.2.2
      clear hwA
      by_cases hml : m < l.length
      · obtain ⟨q, hq⟩ : ∃ q : Nat, q = l.length - m - 1 := ⟨_, rfl⟩
        have hql : q < l.length := by omega
        have hqi : (l.length : Int) - (m : Int) - 1 = (q : Int) := by omega
        obtain ⟨b, off, cap', cs, hv, hs, hc16, l0⟩ := txs_rowC (H.out.1.below (H4.out.1.trans (bA.mono H4.out.1.size)) (Nat.le_refl _)) q hql
        have hao := (Value.slice.inj hv).1
        subst hao
        obtain ⟨t, ht⟩ : ∃ t, t = l[q] := ⟨_, rfl⟩
        rw [← ht] at hs
        have c0 : wA.cell? ⟨b, off + q * 16, none⟩ = some (.int .u32 t.ep) := l0 0 _ (by obtain ⟨rc, rfl, _⟩ := hs; rfl)
        have c1 : wA.cell? ⟨b, off + q * 16 + 1, none⟩ = some (.int .u32 t.n) := l0 1 _ (by obtain ⟨rc, rfl, _⟩ := hs; rfl)
        have hix : ∀ W, (Instr.indexAt 25 (.slice (some ⟨b, off, none⟩) l.length cap) (.int .i64 ((l.length : Int) - (m : Int) - 1))).run Try.prog W = .ok (.pointer (some ⟨b, off + q * 16, none⟩)) W := fun W => by
          rw [hqi]
          exact ix16 b off l.length cap q hql W
        have g0 := cell_of_row _ _ 0 _ _ _ rA
        have g1 := cell_of_row _ _ 1 _ _ _ rA
        have f0 := frozen_of_row _ _ 0 _ _ rA
        have f1 := frozen_of_row _ _ 1 _ _ rA
        simp at g0 g1
        have HFL : Hid (0 ≤ zcmp ze zn t.ep t.n → (lastN m l).filter (abvZ ze zn) = l.filter (abvZ ze zn)) := fun hz => by
          subst hq
          subst ht
          exact filter_last HT.out.2.2 m ze zn hml hz
        obtain ⟨ae, hae⟩ : ∃ ae, ae = t.ep := ⟨_, rfl⟩
        obtain ⟨an, han⟩ : ∃ an, an = t.n := ⟨_, rfl⟩
        rw [← hae] at c0 HFL
        rw [← han] at c1 HFL
        clear hs l0 ht hae han hq hv
        go_upto_region 9 with fail
        rw [← HA.out]
        go_upto_region 10 with fail
        obtain ⟨w5, hw5⟩ : ∃ w5, w5 = (wA.setCell ⟨w4.heap.size, 0, none⟩ (.int .u32 ae)).setCell ⟨w4.heap.size, 1, none⟩ (.int .u32 an) := ⟨_, rfl⟩
        have k5 : Kept wA w5 (fun q => q = w4.heap.size) := by rw [hw5]; exact ((Kept.refl wA (fun q => q = w4.heap.size)).setCell ⟨w4.heap.size, 0, none⟩ _ (fun _ => rfl)).setCell ⟨w4.heap.size, 1, none⟩ _ (fun _ => rfl)
        have r5 : w5.heap[w4.heap.size]? = some (.cells #[.int .u32 ae, .int .u32 an] 24 (0, 0)) := by rw [hw5, heap_setR _ (heap_setR _ rA)]; rfl
        rw [← hw5]
        have b45 : Below w4.heap.size w4 w5 := bA.trans (k5.below bA.size (fun q e => by omega))
        clear hw5 k5 c0 c1 g0 g1 f0 f1 hix bA rA HA
        have H5 : Hid (Below w.heap.size w w5 ∧ w5.heap[w.heap.size + 1]? = some (.cells #[.int .u32 ze, .int .u32 zn] 24 (0, 0)) ∧ w5.heap[w4.heap.size]? = some (.cells #[.int .u32 ae, .int .u32 an] 24 (0, 0)) ∧ Below w4.heap.size w4 w5) := ⟨H4.out.1.trans (b45.mono H4.out.1.size), (b45.block _ l12).trans H4.out.2.2, r5, b45⟩
        have z0 := cell_of_row _ _ 0 _ _ _ H5.out.2.1
        have z1 := cell_of_row _ _ 1 _ _ _ H5.out.2.1
        have y0 := cell_of_row _ _ 0 _ _ _ H5.out.2.2.1
        have y1 := cell_of_row _ _ 1 _ _ _ H5.out.2.2.1
        simp at z0 z1 y0 y1
        clear r5 b45 s0 s1
        go_wp2_with fail
        go_at_call 8
        refine (behind_any (HT.out.1.below H5.out.2.2.2) HT.out.2.1 ze zn ae an).mono ?_
        rintro e w6 ⟨b6, hans⟩
        have H6 : Hid (Below w.heap.size w w6 ∧ w6.heap[w.heap.size + 1]? = some (.cells #[.int .u32 ze, .int .u32 zn] 24 (0, 0)) ∧ w6.heap[w4.heap.size]? = some (.cells #[.int .u32 ae, .int .u32 an] 24 (0, 0))) := ⟨H5.out.1.trans (b6.mono H5.out.1.size), (b6.block _ (lt_of_block H5.out.2.1)).trans H5.out.2.1, (b6.block _ (lt_of_block H5.out.2.2.1)).trans H5.out.2.2.1⟩
        clear b6 H5 z0 z1 y0 y1
        have z0 := cell_of_row _ _ 0 _ _ _ H6.out.2.1
        have z1 := cell_of_row _ _ 1 _ _ _ H6.out.2.1
        have y0 := cell_of_row _ _ 0 _ _ _ H6.out.2.2
        have y1 := cell_of_row _ _ 1 _ _ _ H6.out.2.2
        simp at z0 z1 y0 y1
        rcases hans with ⟨hneg, rfl⟩ | ⟨hnn, va, rfl, hsv⟩
        · go_wp2_with fail
          go_at_call 9
          refine (refCompare_any ze zn ae an w6).mono ?_
          rintro e w7 ⟨rfl, b7⟩
          have H7 : Hid (Below w.heap.size w w7) := H6.out.1.trans (b7.mono H6.out.1.size)
          clear b7 H6 z0 z1 y0 y1 HFL
          generalize zcmp ze zn ae an = cz at *
          go_wp2
          go_ret
          exact ⟨rfl, H7.out⟩
        · rw [HFL.out hnn] at hsv
          obtain ⟨aa, ca, rfl, hla, hca⟩ := txs_shape hsv
          unfold maxLen at hca
          go_wp2_with fail
          go_at_call 9
          refine (refCompare_any ze zn ae an w6).mono ?_
          rintro e w7 ⟨rfl, b7⟩
          have H7 : Hid (Below w.heap.size w w7 ∧ w7.heap[w.heap.size + 1]? = some (.cells #[.int .u32 ze, .int .u32 zn] 24 (0, 0)) ∧ SeesTxs w7 (.slice aa (l.filter (abvZ ze zn)).length ca) (l.filter (abvZ ze zn))) := ⟨H6.out.1.trans (b7.mono H6.out.1.size), (b7.block _ (lt_of_block H6.out.2.1)).trans H6.out.2.1, hsv.below b7 (Nat.le_refl _)⟩
          have hnn2 : ¬ (zcmp ze zn ae an < 0) := by omega
          clear b7 H6 z0 z1 y0 y1 HFL hsv hnn
          generalize zcmp ze zn ae an = cz at *
          obtain ⟨NF, hNF⟩ : ∃ NF, NF = (l.filter (abvZ ze zn)).length := ⟨_, rfl⟩
          have HNF : Hid _ := hNF
          rw [← hNF] at hla H7 ⊢
          clear hNF
          go_wp2_with fail
          go_loopw [15, 16] (fun nv iv wr => ∃ k n : Nat, k ≤ l.length ∧ iv = .int .i64 k ∧ nv = .int .i64 n ∧ Hid (n = ((l.take k).filter (abvZ ze zn)).length) ∧ n ≤ k ∧ Hid (Below w7.heap.size w7 wr)) (fun _ iv _ => l.length - (intOf iv).toNat)
          case atStart => exact ⟨0, 0, Nat.zero_le _, rfl, rfl, rfl, Nat.le_refl _, Below.refl _ _⟩
          case round =>
            obtain ⟨k, n, hk, rfl, rfl, HN, hnk, HB⟩ := hrel
            by_cases hlt : k < l.length
            · obtain ⟨b, off, cap2, xs, hv, hs, hc16, l0⟩ := txs_rowC (H.out.1.below (H7.out.1.trans (HB.out.mono H7.out.1.size)) (Nat.le_refl _)) k hlt
              have hao := (Value.slice.inj hv).1
              clear hv
              first | (subst hao) | (injection hao with hao; injection hao with h1 h2; replace h1 := h1.symm; replace h2 := h2.symm; subst h1; subst h2)
              obtain ⟨t, ht⟩ : ∃ t, t = l[k] := ⟨_, rfl⟩
              rw [← ht] at hs
              have zr := (HB.out.block _ (lt_of_block H7.out.2.1)).trans H7.out.2.1
              have HS : Hid (∀ W, Below wr.heap.size wr W → W.cell? ⟨b, off + k * 16, none⟩ = some (.int .u32 t.ep) ∧ W.cell? ⟨b, off + k * 16 + 1, none⟩ = some (.int .u32 t.n) ∧ W.cell? ⟨w.heap.size + 1, 0, none⟩ = some (.int .u32 ze) ∧ W.cell? ⟨w.heap.size + 1, 1, none⟩ = some (.int .u32 zn)) := fun W hW =>
                ⟨cell_later (l0 0 _ (by obtain ⟨rc, rfl, _⟩ := hs; rfl)) hW (Nat.le_refl _), cell_later (l0 1 _ (by obtain ⟨rc, rfl, _⟩ := hs; rfl)) hW (Nat.le_refl _), cell_later (cell_of_row _ _ 0 _ _ _ zr) hW (Nat.le_refl _), cell_later (cell_of_row _ _ 1 _ _ _ zr) hW (Nat.le_refl _)⟩
              have qx : (Try.prog.info? 43).map (·.size) = some xs.length := by rw [hc16]; exact tx16
              have HX : Hid (SeesTx wr xs t ∧ wr.rangeAt b (off + k * 16) xs ∧ t = l[k]) := ⟨hs, l0, ht⟩
              clear hs l0 ht zr
              go_upto_region 17 with fail
              refine wp_region_held_drew (S := (fun W => W.cell? ⟨b, off + k * 16, none⟩ = some (.int .u32 t.ep) ∧ W.cell? ⟨b, off + k * 16 + 1, none⟩ = some (.int .u32 t.n) ∧ W.cell? ⟨w.heap.size + 1, 0, none⟩ = some (.int .u32 ze) ∧ W.cell? ⟨w.heap.size + 1, 1, none⟩ = some (.int .u32 zn))) (by kernel_rfl) ?_ (fun hHeld => ?_)
              · exact HS.out _ (below_drewN (Below.refl _ _) 1)
              refine wpAnyH_take (i := 0) (oi := { dst := some 80, op := Op.move (Operand.tmp 2), type := 25, pos := "law.go:294", after := #[], guard := none }) (v := ?_) rfl (by kernel_rfl) (by kernel_rfl) (by kernel_rfl) (fun _ _ _ h => h) (Or.inl ⟨by rfl, ?_⟩) (by assumption) ?_
              rotate_left
              · (intro w hSw; (try dsimp only at hSw); go_simp) <;> with_reducible rfl
              try simp only [Act.put, List.setIfInBounds_toArray, List.set_cons_zero, List.set_cons_succ]
              refine wpAnyH_take (i := 1) (oi := { dst := some 81, op := Op.move (Operand.tmp 16), type := 3, pos := "law.go:294", after := #[], guard := none }) (v := ?_) rfl (by kernel_rfl) (by kernel_rfl) (by kernel_rfl) (fun _ _ _ h => h) (Or.inl ⟨by rfl, ?_⟩) (by assumption) ?_
              rotate_left
              · (intro w hSw; (try dsimp only at hSw); go_simp) <;> with_reducible rfl
              try simp only [Act.put, List.setIfInBounds_toArray, List.set_cons_zero, List.set_cons_succ]
              refine wpAnyH_take (i := 2) (oi := { dst := some 82, op := Op.indexAddr 25 (Operand.tmp 80) (Operand.tmp 81), type := 0, pos := "law.go:294", after := #[{ on := 0, ground := Ground.data }, { on := 1, ground := Ground.data }], guard := none }) (v := ?_) rfl (by kernel_rfl) (by kernel_rfl) (by kernel_rfl) (fun _ _ _ h => h) (Or.inl ⟨by rfl, ?_⟩) (by assumption) ?_
              rotate_left
              · (intro w hSw; (try dsimp only at hSw); go_simp) <;> with_reducible rfl
              try simp only [Act.put, List.setIfInBounds_toArray, List.set_cons_zero, List.set_cons_succ]
              refine wpAnyH_take (i := 3) (oi := { dst := some 83, op := Op.fieldAddr 43 (Operand.tmp 82) 0, type := 0, pos := "law.go:294", after := #[{ on := 2, ground := Ground.data }], guard := none }) (v := ?_) rfl (by kernel_rfl) (by kernel_rfl) (by kernel_rfl) (fun _ _ _ h => h) (Or.inl ⟨by rfl, ?_⟩) (by assumption) ?_
              rotate_left
              · (intro w hSw; (try dsimp only at hSw); go_simp) <;> with_reducible rfl
              try simp only [Act.put, List.setIfInBounds_toArray, List.set_cons_zero, List.set_cons_succ]
              refine wpAnyH_take (i := 4) (oi := { dst := some 84, op := Op.load 24 (Operand.tmp 83), type := 24, pos := "law.go:294", after := #[{ on := 3, ground := Ground.data }], guard := none }) (v := ?_) rfl (by kernel_rfl) (by kernel_rfl) (by kernel_rfl) (fun _ _ _ h => h) (Or.inl ⟨by rfl, ?_⟩) (by assumption) ?_
              rotate_left
              · (intro w hSw; (try dsimp only at hSw); go_simp) <;> with_reducible rfl
              try simp only [Act.put, List.setIfInBounds_toArray, List.set_cons_zero, List.set_cons_succ]
              refine wpAnyH_take (i := 5) (oi := { dst := some 85, op := Op.load 24 (Operand.tmp 7), type := 24, pos := "law.go:294", after := #[], guard := none }) (v := ?_) rfl (by kernel_rfl) (by kernel_rfl) (by kernel_rfl) (fun _ _ _ h => h) (Or.inl ⟨by rfl, ?_⟩) (by assumption) ?_
              rotate_left
              · (intro w hSw; (try dsimp only at hSw); go_simp) <;> with_reducible rfl
              try simp only [Act.put, List.setIfInBounds_toArray, List.set_cons_zero, List.set_cons_succ]
              refine wpAnyH_ready (rs := [6]) (by kernel_rfl) (by simp) ?_
              refine AllReadyH.cons (o := { dst := some 86, op := Op.call { callee := Callee.value (Operand.func 9), args := #[Operand.tmp 84, Operand.tmp 85], argTypes := #[24, 24] }, type := 3, pos := "law.go:294", after := #[{ on := 4, ground := Ground.data }, { on := 5, ground := Ground.data }], guard := none }) rfl (fun K hK => ?_) AllReadyH.nil
              go_simp
              refine (refCompare_any t.ep t.n ze zn _).mono ?_
              rintro _ w8 ⟨rfl, b8⟩
              have HB8 : Hid (Below wr.heap.size wr w8) := (below_drewN (Below.refl wr.heap.size wr) 1).trans b8
              clear b8
              refine hK.out _ _ (HS.out _ HB8.out) (fun hHeld => ?_)
              clear hK K
              refine wpAnyH_take (i := 7) (oi := { dst := some 87, op := Op.binOp BinOp.leq 3 (Operand.tmp 86) (Operand.const (Value.int IntKind.i64 0)) 3, type := 4, pos := "law.go:294", after := #[{ on := 6, ground := Ground.data }], guard := none }) (v := ?_) rfl (by kernel_rfl) (by kernel_rfl) (by kernel_rfl) (fun _ _ _ h => h) (Or.inl ⟨by rfl, ?_⟩) (by assumption) ?_
              rotate_left
              · (intro w hSw; (try dsimp only at hSw); go_simp) <;> with_reducible rfl
              try simp only [Act.put, List.setIfInBounds_toArray, List.set_cons_zero, List.set_cons_succ]
              refine wpAnyH_done (by kernel_rfl) ?_ _
              clear hHeld HS
              obtain ⟨c9, hc9⟩ : ∃ c9, c9 = zcmp t.ep t.n ze zn := ⟨_, rfl⟩
              have H9 : Hid (abvZ ze zn t = decide (0 < c9)) := by rw [hc9]; rfl
              rw [← hc9]
              clear hc9
              have HB2 : Hid (Below w7.heap.size w7 w8) := HB.out.trans (HB8.out.mono HB.out.size)
              by_cases hab : c9 ≤ 0
              · have HN2 : Hid (n = ((l.take (k + 1)).filter (abvZ ze zn)).length) := by
                  show n = _
                  rw [filter_not hlt (by rw [← HX.out.2.2, H9.out]; simpa using hab)]
                  exact HN.out
                clear HN HB HB8 HX H9
                go_wp2_with fail
                go_roundw
                case rel => exact ⟨k + 1, n, by omega, by go_num, rfl, HN2, by omega, HB2⟩
                case measure => simp [intOf]; omega
              · have hft := filter_at (f := abvZ ze zn) hlt (by rw [← HX.out.2.2, H9.out]; simpa using hab)
                rw [← HN.out] at hft
                have hnF : n < NF := by rw [HNF.out]; exact (List.getElem?_eq_some_iff.1 hft.1).1
                obtain ⟨ba, offa, capa, ys, hva, hsa, hca16, la0⟩ := txs_rowC (by rw [HNF.out] at H7; exact H7.out.2.2.below HB2.out (Nat.le_refl _)) n (by rw [← HNF.out]; exact hnF)
                have haa := (Value.slice.inj hva).1
                clear hva
                subst haa
                have ht9 : (l.filter (abvZ ze zn))[n]'(by rw [← HNF.out]; exact hnF) = t := by
                  have := hft.1
                  rw [← HX.out.2.2] at this
                  exact (List.getElem?_eq_some_iff.1 this).2
                rw [ht9] at hsa
                have qy : (Try.prog.info? 43).map (·.size) = some ys.length := by rw [hca16]; exact tx16
                have HN2 : Hid (n + 1 = ((l.take (k + 1)).filter (abvZ ze zn)).length) := hft.2.symm
                have HY : Hid (SeesTx w8 ys t ∧ SeesTx w8 xs t ∧ w8.rangeAt ba (offa + n * 16) ys ∧ w8.rangeAt b (off + k * 16) xs) := ⟨hsa, HX.out.1.below HB8.out (Nat.le_refl _), la0, fun j u hj => cell_later (HX.out.2.1 j u hj) HB8.out (Nat.le_refl _)⟩
                have HS8 : Hid (∀ W, Below w8.heap.size w8 W → W.rangeAt ba (offa + n * 16) ys ∧ W.rangeAt b (off + k * 16) xs) := fun W hW => ⟨fun j u hj => cell_later (HY.out.2.2.1 j u hj) hW (Nat.le_refl _), fun j u hj => cell_later (HY.out.2.2.2 j u hj) hW (Nat.le_refl _)⟩
                have hge : decide ((NF : Int) ≤ (n : Int)) = false := by simp; omega
                clear hft ht9 hsa la0 HX HN HB HB8
                go_upto_region 18 with fail
                refine wp_region_held_drew (S := (fun W => W.rangeAt ba (offa + n * 16) ys ∧ W.rangeAt b (off + k * 16) xs)) (by kernel_rfl) ?_ (fun hHeld => ?_)
                · exact HS8.out _ (below_drewN (Below.refl _ _) 1)
                refine wpAnyH_take (i := 0) (oi := { dst := some 88, op := Op.move (Operand.tmp 15), type := 3, pos := "law.go:297", after := #[], guard := none }) (v := ?_) rfl (by kernel_rfl) (by kernel_rfl) (by kernel_rfl) (fun _ _ _ h => h) (Or.inl ⟨by rfl, ?_⟩) (by assumption) ?_
                rotate_left
                · (intro w hSw; (try dsimp only at hSw); go_simp) <;> with_reducible rfl
                try simp only [Act.put, List.setIfInBounds_toArray, List.set_cons_zero, List.set_cons_succ]
                refine wpAnyH_take (i := 1) (oi := { dst := some 89, op := Op.move (Operand.tmp 13), type := 25, pos := "law.go:297", after := #[], guard := none }) (v := ?_) rfl (by kernel_rfl) (by kernel_rfl) (by kernel_rfl) (fun _ _ _ h => h) (Or.inl ⟨by rfl, ?_⟩) (by assumption) ?_
                rotate_left
                · (intro w hSw; (try dsimp only at hSw); go_simp) <;> with_reducible rfl
                try simp only [Act.put, List.setIfInBounds_toArray, List.set_cons_zero, List.set_cons_succ]
                refine wpAnyH_take (i := 2) (oi := { dst := some 90, op := Op.call { callee := Callee.builtin Builtin.len, args := #[Operand.tmp 89], argTypes := #[25] }, type := 3, pos := "law.go:297", after := #[{ on := 1, ground := Ground.data }], guard := none }) (v := ?_) rfl (by kernel_rfl) (by kernel_rfl) (by kernel_rfl) (fun _ _ _ h => h) (Or.inl ⟨by rfl, ?_⟩) (by assumption) ?_
                rotate_left
                · (intro w hSw; (try dsimp only at hSw); go_simp) <;> with_reducible rfl
                try simp only [Act.put, List.setIfInBounds_toArray, List.set_cons_zero, List.set_cons_succ]
                refine wpAnyH_take (i := 3) (oi := { dst := some 91, op := Op.binOp BinOp.geq 3 (Operand.tmp 88) (Operand.tmp 90) 3, type := 4, pos := "law.go:297", after := #[{ on := 0, ground := Ground.data }, { on := 2, ground := Ground.data }], guard := none }) (v := .bool false) rfl (by kernel_rfl) (by kernel_rfl) (by kernel_rfl) (fun _ _ _ h => h) (Or.inl ⟨by rfl, fun w' hSw => by go_simp⟩) (by assumption) ?_
                try simp only [Act.put, List.setIfInBounds_toArray, List.set_cons_zero, List.set_cons_succ]
                refine wpAnyH_take (i := 4) (oi := { dst := some 92, op := Op.move (Operand.tmp 91), type := 4, pos := "law.go:297", after := #[{ on := 3, ground := Ground.data }], guard := none }) (v := ?_) rfl (by kernel_rfl) (by kernel_rfl) (by kernel_rfl) (fun _ _ _ h => h) (Or.inl ⟨by rfl, ?_⟩) (by assumption) ?_
                rotate_left
                · (intro w hSw; (try dsimp only at hSw); go_simp) <;> with_reducible rfl
                try simp only [Act.put, List.setIfInBounds_toArray, List.set_cons_zero, List.set_cons_succ]
                refine wpAnyH_take (i := 5) (oi := { dst := some 93, op := Op.move (Operand.tmp 13), type := 25, pos := "law.go:297", after := #[{ on := 4, ground := Ground.guard }], guard := some (4, false) }) (v := ?_) rfl (by kernel_rfl) (by kernel_rfl) (by kernel_rfl) (fun _ _ _ h => h) (Or.inl ⟨by rfl, ?_⟩) (by assumption) ?_
                rotate_left
                · (intro w hSw; (try dsimp only at hSw); go_simp) <;> with_reducible rfl
                try simp only [Act.put, List.setIfInBounds_toArray, List.set_cons_zero, List.set_cons_succ]
                refine wpAnyH_take (i := 6) (oi := { dst := some 94, op := Op.move (Operand.tmp 15), type := 3, pos := "law.go:297", after := #[{ on := 4, ground := Ground.guard }], guard := some (4, false) }) (v := ?_) rfl (by kernel_rfl) (by kernel_rfl) (by kernel_rfl) (fun _ _ _ h => h) (Or.inl ⟨by rfl, ?_⟩) (by assumption) ?_
                rotate_left
                · (intro w hSw; (try dsimp only at hSw); go_simp) <;> with_reducible rfl
                try simp only [Act.put, List.setIfInBounds_toArray, List.set_cons_zero, List.set_cons_succ]
                refine wpAnyH_take (i := 7) (oi := { dst := some 95, op := Op.indexAddr 25 (Operand.tmp 93) (Operand.tmp 94), type := 0, pos := "law.go:297", after := #[{ on := 5, ground := Ground.data }, { on := 6, ground := Ground.data }, { on := 4, ground := Ground.guard }], guard := some (4, false) }) (v := ?_) rfl (by kernel_rfl) (by kernel_rfl) (by kernel_rfl) (fun _ _ _ h => h) (Or.inl ⟨by rfl, ?_⟩) (by assumption) ?_
                rotate_left
                · (intro w hSw; (try dsimp only at hSw); go_simp) <;> with_reducible rfl
                try simp only [Act.put, List.setIfInBounds_toArray, List.set_cons_zero, List.set_cons_succ]
                refine wpAnyH_take (i := 8) (oi := { dst := some 96, op := Op.load 43 (Operand.tmp 95), type := 43, pos := "law.go:297", after := #[{ on := 7, ground := Ground.data }, { on := 4, ground := Ground.guard }], guard := some (4, false) }) (v := .agg ys.toArray) rfl (by kernel_rfl) (by kernel_rfl) (by kernel_rfl) (fun _ _ _ h => h) (yieldsIf_load_mid (by kernel_rfl) 43 _ rfl ba (offa + n * 16) rfl ys _ (fun _ h => h.1) Try.underlying43 rfl qy) (by assumption) ?_
                try simp only [Act.put, List.setIfInBounds_toArray, List.set_cons_zero, List.set_cons_succ]
                refine wpAnyH_take (i := 9) (oi := { dst := some 97, op := Op.move (Operand.tmp 2), type := 25, pos := "law.go:297", after := #[{ on := 4, ground := Ground.guard }], guard := some (4, false) }) (v := ?_) rfl (by kernel_rfl) (by kernel_rfl) (by kernel_rfl) (fun _ _ _ h => h) (Or.inl ⟨by rfl, ?_⟩) (by assumption) ?_
                rotate_left
                · (intro w hSw; (try dsimp only at hSw); go_simp) <;> with_reducible rfl
                try simp only [Act.put, List.setIfInBounds_toArray, List.set_cons_zero, List.set_cons_succ]
                refine wpAnyH_take (i := 10) (oi := { dst := some 98, op := Op.move (Operand.tmp 16), type := 3, pos := "law.go:297", after := #[{ on := 4, ground := Ground.guard }], guard := some (4, false) }) (v := ?_) rfl (by kernel_rfl) (by kernel_rfl) (by kernel_rfl) (fun _ _ _ h => h) (Or.inl ⟨by rfl, ?_⟩) (by assumption) ?_
                rotate_left
                · (intro w hSw; (try dsimp only at hSw); go_simp) <;> with_reducible rfl
                try simp only [Act.put, List.setIfInBounds_toArray, List.set_cons_zero, List.set_cons_succ]
                refine wpAnyH_take (i := 11) (oi := { dst := some 99, op := Op.indexAddr 25 (Operand.tmp 97) (Operand.tmp 98), type := 0, pos := "law.go:297", after := #[{ on := 9, ground := Ground.data }, { on := 10, ground := Ground.data }, { on := 4, ground := Ground.guard }], guard := some (4, false) }) (v := ?_) rfl (by kernel_rfl) (by kernel_rfl) (by kernel_rfl) (fun _ _ _ h => h) (Or.inl ⟨by rfl, ?_⟩) (by assumption) ?_
                rotate_left
                · (intro w hSw; (try dsimp only at hSw); go_simp) <;> with_reducible rfl
                try simp only [Act.put, List.setIfInBounds_toArray, List.set_cons_zero, List.set_cons_succ]
                refine wpAnyH_take (i := 12) (oi := { dst := some 100, op := Op.load 43 (Operand.tmp 99), type := 43, pos := "law.go:297", after := #[{ on := 11, ground := Ground.data }, { on := 4, ground := Ground.guard }], guard := some (4, false) }) (v := .agg xs.toArray) rfl (by kernel_rfl) (by kernel_rfl) (by kernel_rfl) (fun _ _ _ h => h) (yieldsIf_load_mid (by kernel_rfl) 43 _ rfl b (off + k * 16) rfl xs _ (fun _ h => h.2) Try.underlying43 rfl qx) (by assumption) ?_
                try simp only [Act.put, List.setIfInBounds_toArray, List.set_cons_zero, List.set_cons_succ]
                refine wpAnyH_ready (rs := [13]) (by kernel_rfl) (by simp) ?_
                refine AllReadyH.cons (o := { dst := some 101, op := Op.call { callee := Callee.value (Operand.func 10), args := #[Operand.tmp 96, Operand.tmp 100], argTypes := #[43, 43] }, type := 4, pos := "law.go:297", after := #[{ on := 8, ground := Ground.data }, { on := 12, ground := Ground.data }, { on := 4, ground := Ground.chain }, { on := 4, ground := Ground.guard }], guard := some (4, false) }) rfl (fun K hK => ?_) AllReadyH.nil
                go_simp
                refine (eqTxn_same ys xs t _ (HY.out.1.below (below_drewN (Below.refl _ _) 1) (Nat.le_refl _)) (HY.out.2.1.below (below_drewN (Below.refl _ _) 1) (Nat.le_refl _))).mono ?_
                rintro _ w9 ⟨rfl, b9⟩
                have HB9 : Hid (Below w8.heap.size w8 w9) := (below_drewN (Below.refl w8.heap.size w8) 1).trans b9
                clear b9
                refine hK.out _ _ (HS8.out _ HB9.out) (fun hHeld => ?_)
                clear hK K
                refine wpAnyH_take (i := 14) (oi := { dst := some 102, op := Op.unOp UnOp.not 4 (Operand.tmp 101), type := 4, pos := "law.go:297", after := #[{ on := 13, ground := Ground.data }, { on := 4, ground := Ground.guard }], guard := some (4, false) }) (v := ?_) rfl (by kernel_rfl) (by kernel_rfl) (by kernel_rfl) (fun _ _ _ h => h) (Or.inl ⟨by rfl, ?_⟩) (by assumption) ?_
                rotate_left
                · (intro w hSw; (try dsimp only at hSw); go_simp) <;> with_reducible rfl
                try simp only [Act.put, List.setIfInBounds_toArray, List.set_cons_zero, List.set_cons_succ]
                refine wpAnyH_take (i := 15) (oi := { dst := some 103, op := Op.pick (Operand.tmp 92) (Operand.const (Value.bool true)) (Operand.tmp 102), type := 4, pos := "law.go:297", after := #[{ on := 4, ground := Ground.data }, { on := 14, ground := Ground.data }], guard := none }) (v := ?_) rfl (by kernel_rfl) (by kernel_rfl) (by kernel_rfl) (fun _ _ _ h => h) (Or.inl ⟨by rfl, ?_⟩) (by assumption) ?_
                rotate_left
                · (intro w hSw; (try dsimp only at hSw); go_simp) <;> with_reducible rfl
                try simp only [Act.put, List.setIfInBounds_toArray, List.set_cons_zero, List.set_cons_succ]
                refine wpAnyH_done (by kernel_rfl) ?_ _
                clear hHeld HS8 HY
                have HB3 : Hid (Below w7.heap.size w7 w9) := HB2.out.trans (HB9.out.mono HB2.out.size)
                clear HB2 HB9
                go_wp2_with fail
                go_roundw
                case rel => exact ⟨k + 1, n + 1, by omega, by go_num, by go_num, HN2, by omega, HB3⟩
                case measure => simp [intOf]; omega
            · obtain rfl : k = l.length := by omega
              have hn9 : n = NF := by rw [HN.out, HNF.out, List.take_length]
              subst hn9
              have HE : Hid (Below w.heap.size w wr) := H7.out.1.trans (HB.out.mono H7.out.1.size)
              clear HN HNF HB
              go_wp2_with fail
              go_ret
              exact ⟨rfl, HE.out⟩
      · obtain ⟨ae, hae⟩ : ∃ ae, ae = se := ⟨_, rfl⟩
        obtain ⟨an, han⟩ : ∃ an, an = sn := ⟨_, rfl⟩
        have HFL : Hid (0 ≤ zcmp ze zn ae an → (lastN m l).filter (abvZ ze zn) = l.filter (abvZ ze zn)) := fun _ => by rw [lastN_short (by omega)]
        go_upto_region 10 with fail
        rw [← HA.out]
        have r5 := rA
        have b45 := bA
        rw [← hae, ← han] at r5
        clear bA rA HA hae han
        generalize wA = w5 at *
        have H5 : Hid (Below w.heap.size w w5 ∧ w5.heap[w.heap.size + 1]? = some (.cells #[.int .u32 ze, .int .u32 zn] 24 (0, 0)) ∧ w5.heap[w4.heap.size]? = some (.cells #[.int .u32 ae, .int .u32 an] 24 (0, 0)) ∧ Below w4.heap.size w4 w5) := ⟨H4.out.1.trans (b45.mono H4.out.1.size), (b45.block _ l12).trans H4.out.2.2, r5, b45⟩
        have z0 := cell_of_row _ _ 0 _ _ _ H5.out.2.1
        have z1 := cell_of_row _ _ 1 _ _ _ H5.out.2.1
        have y0 := cell_of_row _ _ 0 _ _ _ H5.out.2.2.1
        have y1 := cell_of_row _ _ 1 _ _ _ H5.out.2.2.1
        simp at z0 z1 y0 y1
        clear r5 b45 s0 s1
        go_wp2_with fail
        go_at_call 8
        refine (behind_any (HT.out.1.below H5.out.2.2.2) HT.out.2.1 ze zn ae an).mono ?_
        rintro e w6 ⟨b6, hans⟩
        have H6 : Hid (Below w.heap.size w w6 ∧ w6.heap[w.heap.size + 1]? = some (.cells #[.int .u32 ze, .int .u32 zn] 24 (0, 0)) ∧ w6.heap[w4.heap.size]? = some (.cells #[.int .u32 ae, .int .u32 an] 24 (0, 0))) := ⟨H5.out.1.trans (b6.mono H5.out.1.size), (b6.block _ (lt_of_block H5.out.2.1)).trans H5.out.2.1, (b6.block _ (lt_of_block H5.out.2.2.1)).trans H5.out.2.2.1⟩
        clear b6 H5 z0 z1 y0 y1
        have z0 := cell_of_row _ _ 0 _ _ _ H6.out.2.1
        have z1 := cell_of_row _ _ 1 _ _ _ H6.out.2.1
        have y0 := cell_of_row _ _ 0 _ _ _ H6.out.2.2
        have y1 := cell_of_row _ _ 1 _ _ _ H6.out.2.2
        simp at z0 z1 y0 y1
        rcases hans with ⟨hneg, rfl⟩ | ⟨hnn, va, rfl, hsv⟩
        · go_wp2_with fail
          go_at_call 9
          refine (refCompare_any ze zn ae an w6).mono ?_
          rintro e w7 ⟨rfl, b7⟩
          have H7 : Hid (Below w.heap.size w w7) := H6.out.1.trans (b7.mono H6.out.1.size)
          clear b7 H6 z0 z1 y0 y1 HFL
          generalize zcmp ze zn ae an = cz at *
          go_wp2
          go_ret
          exact ⟨rfl, H7.out⟩
        · rw [HFL.out hnn] at hsv
          obtain ⟨aa, ca, rfl, hla, hca⟩ := txs_shape hsv
          unfold maxLen at hca
          go_wp2_with fail
          go_at_call 9
          refine (refCompare_any ze zn ae an w6).mono ?_
          rintro e w7 ⟨rfl, b7⟩
          have H7 : Hid (Below w.heap.size w w7 ∧ w7.heap[w.heap.size + 1]? = some (.cells #[.int .u32 ze, .int .u32 zn] 24 (0, 0)) ∧ SeesTxs w7 (.slice aa (l.filter (abvZ ze zn)).length ca) (l.filter (abvZ ze zn))) := ⟨H6.out.1.trans (b7.mono H6.out.1.size), (b7.block _ (lt_of_block H6.out.2.1)).trans H6.out.2.1, hsv.below b7 (Nat.le_refl _)⟩
          have hnn2 : ¬ (zcmp ze zn ae an < 0) := by omega
          clear b7 H6 z0 z1 y0 y1 HFL hsv hnn
          generalize zcmp ze zn ae an = cz at *
          obtain ⟨NF, hNF⟩ : ∃ NF, NF = (l.filter (abvZ ze zn)).length := ⟨_, rfl⟩
          have HNF : Hid _ := hNF
          rw [← hNF] at hla H7 ⊢
          clear hNF
          go_wp2_with fail
          go_loopw [15, 16] (fun nv iv wr => ∃ k n : Nat, k ≤ l.length ∧ iv = .int .i64 k ∧ nv = .int .i64 n ∧ Hid (n = ((l.take k).filter (abvZ ze zn)).length) ∧ n ≤ k ∧ Hid (Below w7.heap.size w7 wr)) (fun _ iv _ => l.length - (intOf iv).toNat)
          case atStart => exact ⟨0, 0, Nat.zero_le _, rfl, rfl, rfl, Nat.le_refl _, Below.refl _ _⟩
          case round =>
            obtain ⟨k, n, hk, rfl, rfl, HN, hnk, HB⟩ := hrel
            by_cases hlt : k < l.length
            · obtain ⟨b, off, cap2, xs, hv, hs, hc16, l0⟩ := txs_rowC (H.out.1.below (H7.out.1.trans (HB.out.mono H7.out.1.size)) (Nat.le_refl _)) k hlt
              have hao := (Value.slice.inj hv).1
              clear hv
              first | (subst hao) | (injection hao with hao; injection hao with h1 h2; replace h1 := h1.symm; replace h2 := h2.symm; subst h1; subst h2)
              obtain ⟨t, ht⟩ : ∃ t, t = l[k] := ⟨_, rfl⟩
              rw [← ht] at hs
              have zr := (HB.out.block _ (lt_of_block H7.out.2.1)).trans H7.out.2.1
              have HS : Hid (∀ W, Below wr.heap.size wr W → W.cell? ⟨b, off + k * 16, none⟩ = some (.int .u32 t.ep) ∧ W.cell? ⟨b, off + k * 16 + 1, none⟩ = some (.int .u32 t.n) ∧ W.cell? ⟨w.heap.size + 1, 0, none⟩ = some (.int .u32 ze) ∧ W.cell? ⟨w.heap.size + 1, 1, none⟩ = some (.int .u32 zn)) := fun W hW =>
                ⟨cell_later (l0 0 _ (by obtain ⟨rc, rfl, _⟩ := hs; rfl)) hW (Nat.le_refl _), cell_later (l0 1 _ (by obtain ⟨rc, rfl, _⟩ := hs; rfl)) hW (Nat.le_refl _), cell_later (cell_of_row _ _ 0 _ _ _ zr) hW (Nat.le_refl _), cell_later (cell_of_row _ _ 1 _ _ _ zr) hW (Nat.le_refl _)⟩
              have qx : (Try.prog.info? 43).map (·.size) = some xs.length := by rw [hc16]; exact tx16
              have HX : Hid (SeesTx wr xs t ∧ wr.rangeAt b (off + k * 16) xs ∧ t = l[k]) := ⟨hs, l0, ht⟩
              clear hs l0 ht zr
              go_upto_region 17 with fail
              refine wp_region_held_drew (S := (fun W => W.cell? ⟨b, off + k * 16, none⟩ = some (.int .u32 t.ep) ∧ W.cell? ⟨b, off + k * 16 + 1, none⟩ = some (.int .u32 t.n) ∧ W.cell? ⟨w.heap.size + 1, 0, none⟩ = some (.int .u32 ze) ∧ W.cell? ⟨w.heap.size + 1, 1, none⟩ = some (.int .u32 zn))) (by kernel_rfl) ?_ (fun hHeld => ?_)
              · exact HS.out _ (below_drewN (Below.refl _ _) 1)
              refine wpAnyH_take (i := 0) (oi := { dst := some 80, op := Op.move (Operand.tmp 2), type := 25, pos := "law.go:294", after := #[], guard := none }) (v := ?_) rfl (by kernel_rfl) (by kernel_rfl) (by kernel_rfl) (fun _ _ _ h => h) (Or.inl ⟨by rfl, ?_⟩) (by assumption) ?_
              rotate_left
              · (intro w hSw; (try dsimp only at hSw); go_simp) <;> with_reducible rfl
              try simp only [Act.put, List.setIfInBounds_toArray, List.set_cons_zero, List.set_cons_succ]
              refine wpAnyH_take (i := 1) (oi := { dst := some 81, op := Op.move (Operand.tmp 16), type := 3, pos := "law.go:294", after := #[], guard := none }) (v := ?_) rfl (by kernel_rfl) (by kernel_rfl) (by kernel_rfl) (fun _ _ _ h => h) (Or.inl ⟨by rfl, ?_⟩) (by assumption) ?_
              rotate_left
              · (intro w hSw; (try dsimp only at hSw); go_simp) <;> with_reducible rfl
              try simp only [Act.put, List.setIfInBounds_toArray, List.set_cons_zero, List.set_cons_succ]
              refine wpAnyH_take (i := 2) (oi := { dst := some 82, op := Op.indexAddr 25 (Operand.tmp 80) (Operand.tmp 81), type := 0, pos := "law.go:294", after := #[{ on := 0, ground := Ground.data }, { on := 1, ground := Ground.data }], guard := none }) (v := ?_) rfl (by kernel_rfl) (by kernel_rfl) (by kernel_rfl) (fun _ _ _ h => h) (Or.inl ⟨by rfl, ?_⟩) (by assumption) ?_
              rotate_left
              · (intro w hSw; (try dsimp only at hSw); go_simp) <;> with_reducible rfl
              try simp only [Act.put, List.setIfInBounds_toArray, List.set_cons_zero, List.set_cons_succ]
              refine wpAnyH_take (i := 3) (oi := { dst := some 83, op := Op.fieldAddr 43 (Operand.tmp 82) 0, type := 0, pos := "law.go:294", after := #[{ on := 2, ground := Ground.data }], guard := none }) (v := ?_) rfl (by kernel_rfl) (by kernel_rfl) (by kernel_rfl) (fun _ _ _ h => h) (Or.inl ⟨by rfl, ?_⟩) (by assumption) ?_
              rotate_left
              · (intro w hSw; (try dsimp only at hSw); go_simp) <;> with_reducible rfl
              try simp only [Act.put, List.setIfInBounds_toArray, List.set_cons_zero, List.set_cons_succ]
              refine wpAnyH_take (i := 4) (oi := { dst := some 84, op := Op.load 24 (Operand.tmp 83), type := 24, pos := "law.go:294", after := #[{ on := 3, ground := Ground.data }], guard := none }) (v := ?_) rfl (by kernel_rfl) (by kernel_rfl) (by kernel_rfl) (fun _ _ _ h => h) (Or.inl ⟨by rfl, ?_⟩) (by assumption) ?_
              rotate_left
              · (intro w hSw; (try dsimp only at hSw); go_simp) <;> with_reducible rfl
              try simp only [Act.put, List.setIfInBounds_toArray, List.set_cons_zero, List.set_cons_succ]
              refine wpAnyH_take (i := 5) (oi := { dst := some 85, op := Op.load 24 (Operand.tmp 7), type := 24, pos := "law.go:294", after := #[], guard := none }) (v := ?_) rfl (by kernel_rfl) (by kernel_rfl) (by kernel_rfl) (fun _ _ _ h => h) (Or.inl ⟨by rfl, ?_⟩) (by assumption) ?_
              rotate_left
              · (intro w hSw; (try dsimp only at hSw); go_simp) <;> with_reducible rfl
              try simp only [Act.put, List.setIfInBounds_toArray, List.set_cons_zero, List.set_cons_succ]
              refine wpAnyH_ready (rs := [6]) (by kernel_rfl) (by simp) ?_
              refine AllReadyH.cons (o := { dst := some 86, op := Op.call { callee := Callee.value (Operand.func 9), args := #[Operand.tmp 84, Operand.tmp 85], argTypes := #[24, 24] }, type := 3, pos := "law.go:294", after := #[{ on := 4, ground := Ground.data }, { on := 5, ground := Ground.data }], guard := none }) rfl (fun K hK => ?_) AllReadyH.nil
              go_simp
              refine (refCompare_any t.ep t.n ze zn _).mono ?_
              rintro _ w8 ⟨rfl, b8⟩
              have HB8 : Hid (Below wr.heap.size wr w8) := (below_drewN (Below.refl wr.heap.size wr) 1).trans b8
              clear b8
              refine hK.out _ _ (HS.out _ HB8.out) (fun hHeld => ?_)
              clear hK K
              refine wpAnyH_take (i := 7) (oi := { dst := some 87, op := Op.binOp BinOp.leq 3 (Operand.tmp 86) (Operand.const (Value.int IntKind.i64 0)) 3, type := 4, pos := "law.go:294", after := #[{ on := 6, ground := Ground.data }], guard := none }) (v := ?_) rfl (by kernel_rfl) (by kernel_rfl) (by kernel_rfl) (fun _ _ _ h => h) (Or.inl ⟨by rfl, ?_⟩) (by assumption) ?_
              rotate_left
              · (intro w hSw; (try dsimp only at hSw); go_simp) <;> with_reducible rfl
              try simp only [Act.put, List.setIfInBounds_toArray, List.set_cons_zero, List.set_cons_succ]
              refine wpAnyH_done (by kernel_rfl) ?_ _
              clear hHeld HS
              obtain ⟨c9, hc9⟩ : ∃ c9, c9 = zcmp t.ep t.n ze zn := ⟨_, rfl⟩
              have H9 : Hid (abvZ ze zn t = decide (0 < c9)) := by rw [hc9]; rfl
              rw [← hc9]
              clear hc9
              have HB2 : Hid (Below w7.heap.size w7 w8) := HB.out.trans (HB8.out.mono HB.out.size)
              by_cases hab : c9 ≤ 0
              · have HN2 : Hid (n = ((l.take (k + 1)).filter (abvZ ze zn)).length) := by
                  show n = _
                  rw [filter_not hlt (by rw [← HX.out.2.2, H9.out]; simpa using hab)]
                  exact HN.out
                clear HN HB HB8 HX H9
                go_wp2_with fail
                go_roundw
                case rel => exact ⟨k + 1, n, by omega, by go_num, rfl, HN2, by omega, HB2⟩
                case measure => simp [intOf]; omega
              · have hft := filter_at (f := abvZ ze zn) hlt (by rw [← HX.out.2.2, H9.out]; simpa using hab)
                rw [← HN.out] at hft
                have hnF : n < NF := by rw [HNF.out]; exact (List.getElem?_eq_some_iff.1 hft.1).1
                obtain ⟨ba, offa, capa, ys, hva, hsa, hca16, la0⟩ := txs_rowC (by rw [HNF.out] at H7; exact H7.out.2.2.below HB2.out (Nat.le_refl _)) n (by rw [← HNF.out]; exact hnF)
                have haa := (Value.slice.inj hva).1
                clear hva
                subst haa
                have ht9 : (l.filter (abvZ ze zn))[n]'(by rw [← HNF.out]; exact hnF) = t := by
                  have := hft.1
                  rw [← HX.out.2.2] at this
                  exact (List.getElem?_eq_some_iff.1 this).2
                rw [ht9] at hsa
                have qy : (Try.prog.info? 43).map (·.size) = some ys.length := by rw [hca16]; exact tx16
                have HN2 : Hid (n + 1 = ((l.take (k + 1)).filter (abvZ ze zn)).length) := hft.2.symm
                have HY : Hid (SeesTx w8 ys t ∧ SeesTx w8 xs t ∧ w8.rangeAt ba (offa + n * 16) ys ∧ w8.rangeAt b (off + k * 16) xs) := ⟨hsa, HX.out.1.below HB8.out (Nat.le_refl _), la0, fun j u hj => cell_later (HX.out.2.1 j u hj) HB8.out (Nat.le_refl _)⟩
                have HS8 : Hid (∀ W, Below w8.heap.size w8 W → W.rangeAt ba (offa + n * 16) ys ∧ W.rangeAt b (off + k * 16) xs) := fun W hW => ⟨fun j u hj => cell_later (HY.out.2.2.1 j u hj) hW (Nat.le_refl _), fun j u hj => cell_later (HY.out.2.2.2 j u hj) hW (Nat.le_refl _)⟩
                have hge : decide ((NF : Int) ≤ (n : Int)) = false := by simp; omega
                clear hft ht9 hsa la0 HX HN HB HB8
                go_upto_region 18 with fail
                refine wp_region_held_drew (S := (fun W => W.rangeAt ba (offa + n * 16) ys ∧ W.rangeAt b (off + k * 16) xs)) (by kernel_rfl) ?_ (fun hHeld => ?_)
                · exact HS8.out _ (below_drewN (Below.refl _ _) 1)
                refine wpAnyH_take (i := 0) (oi := { dst := some 88, op := Op.move (Operand.tmp 15), type := 3, pos := "law.go:297", after := #[], guard := none }) (v := ?_) rfl (by kernel_rfl) (by kernel_rfl) (by kernel_rfl) (fun _ _ _ h => h) (Or.inl ⟨by rfl, ?_⟩) (by assumption) ?_
                rotate_left
                · (intro w hSw; (try dsimp only at hSw); go_simp) <;> with_reducible rfl
                try simp only [Act.put, List.setIfInBounds_toArray, List.set_cons_zero, List.set_cons_succ]
                refine wpAnyH_take (i := 1) (oi := { dst := some 89, op := Op.move (Operand.tmp 13), type := 25, pos := "law.go:297", after := #[], guard := none }) (v := ?_) rfl (by kernel_rfl) (by kernel_rfl) (by kernel_rfl) (fun _ _ _ h => h) (Or.inl ⟨by rfl, ?_⟩) (by assumption) ?_
                rotate_left
                · (intro w hSw; (try dsimp only at hSw); go_simp) <;> with_reducible rfl
                try simp only [Act.put, List.setIfInBounds_toArray, List.set_cons_zero, List.set_cons_succ]
                refine wpAnyH_take (i := 2) (oi := { dst := some 90, op := Op.call { callee := Callee.builtin Builtin.len, args := #[Operand.tmp 89], argTypes := #[25] }, type := 3, pos := "law.go:297", after := #[{ on := 1, ground := Ground.data }], guard := none }) (v := ?_) rfl (by kernel_rfl) (by kernel_rfl) (by kernel_rfl) (fun _ _ _ h => h) (Or.inl ⟨by rfl, ?_⟩) (by assumption) ?_
                rotate_left
                · (intro w hSw; (try dsimp only at hSw); go_simp) <;> with_reducible rfl
                try simp only [Act.put, List.setIfInBounds_toArray, List.set_cons_zero, List.set_cons_succ]
                refine wpAnyH_take (i := 3) (oi := { dst := some 91, op := Op.binOp BinOp.geq 3 (Operand.tmp 88) (Operand.tmp 90) 3, type := 4, pos := "law.go:297", after := #[{ on := 0, ground := Ground.data }, { on := 2, ground := Ground.data }], guard := none }) (v := .bool false) rfl (by kernel_rfl) (by kernel_rfl) (by kernel_rfl) (fun _ _ _ h => h) (Or.inl ⟨by rfl, fun w' hSw => by go_simp⟩) (by assumption) ?_
                try simp only [Act.put, List.setIfInBounds_toArray, List.set_cons_zero, List.set_cons_succ]
                refine wpAnyH_take (i := 4) (oi := { dst := some 92, op := Op.move (Operand.tmp 91), type := 4, pos := "law.go:297", after := #[{ on := 3, ground := Ground.data }], guard := none }) (v := ?_) rfl (by kernel_rfl) (by kernel_rfl) (by kernel_rfl) (fun _ _ _ h => h) (Or.inl ⟨by rfl, ?_⟩) (by assumption) ?_
                rotate_left
                · (intro w hSw; (try dsimp only at hSw); go_simp) <;> with_reducible rfl
                try simp only [Act.put, List.setIfInBounds_toArray, List.set_cons_zero, List.set_cons_succ]
                refine wpAnyH_take (i := 5) (oi := { dst := some 93, op := Op.move (Operand.tmp 13), type := 25, pos := "law.go:297", after := #[{ on := 4, ground := Ground.guard }], guard := some (4, false) }) (v := ?_) rfl (by kernel_rfl) (by kernel_rfl) (by kernel_rfl) (fun _ _ _ h => h) (Or.inl ⟨by rfl, ?_⟩) (by assumption) ?_
                rotate_left
                · (intro w hSw; (try dsimp only at hSw); go_simp) <;> with_reducible rfl
                try simp only [Act.put, List.setIfInBounds_toArray, List.set_cons_zero, List.set_cons_succ]
                refine wpAnyH_take (i := 6) (oi := { dst := some 94, op := Op.move (Operand.tmp 15), type := 3, pos := "law.go:297", after := #[{ on := 4, ground := Ground.guard }], guard := some (4, false) }) (v := ?_) rfl (by kernel_rfl) (by kernel_rfl) (by kernel_rfl) (fun _ _ _ h => h) (Or.inl ⟨by rfl, ?_⟩) (by assumption) ?_
                rotate_left
                · (intro w hSw; (try dsimp only at hSw); go_simp) <;> with_reducible rfl
                try simp only [Act.put, List.setIfInBounds_toArray, List.set_cons_zero, List.set_cons_succ]
                refine wpAnyH_take (i := 7) (oi := { dst := some 95, op := Op.indexAddr 25 (Operand.tmp 93) (Operand.tmp 94), type := 0, pos := "law.go:297", after := #[{ on := 5, ground := Ground.data }, { on := 6, ground := Ground.data }, { on := 4, ground := Ground.guard }], guard := some (4, false) }) (v := ?_) rfl (by kernel_rfl) (by kernel_rfl) (by kernel_rfl) (fun _ _ _ h => h) (Or.inl ⟨by rfl, ?_⟩) (by assumption) ?_
                rotate_left
                · (intro w hSw; (try dsimp only at hSw); go_simp) <;> with_reducible rfl
                try simp only [Act.put, List.setIfInBounds_toArray, List.set_cons_zero, List.set_cons_succ]
                refine wpAnyH_take (i := 8) (oi := { dst := some 96, op := Op.load 43 (Operand.tmp 95), type := 43, pos := "law.go:297", after := #[{ on := 7, ground := Ground.data }, { on := 4, ground := Ground.guard }], guard := some (4, false) }) (v := .agg ys.toArray) rfl (by kernel_rfl) (by kernel_rfl) (by kernel_rfl) (fun _ _ _ h => h) (yieldsIf_load_mid (by kernel_rfl) 43 _ rfl ba (offa + n * 16) rfl ys _ (fun _ h => h.1) Try.underlying43 rfl qy) (by assumption) ?_
                try simp only [Act.put, List.setIfInBounds_toArray, List.set_cons_zero, List.set_cons_succ]
                refine wpAnyH_take (i := 9) (oi := { dst := some 97, op := Op.move (Operand.tmp 2), type := 25, pos := "law.go:297", after := #[{ on := 4, ground := Ground.guard }], guard := some (4, false) }) (v := ?_) rfl (by kernel_rfl) (by kernel_rfl) (by kernel_rfl) (fun _ _ _ h => h) (Or.inl ⟨by rfl, ?_⟩) (by assumption) ?_
                rotate_left
                · (intro w hSw; (try dsimp only at hSw); go_simp) <;> with_reducible rfl
                try simp only [Act.put, List.setIfInBounds_toArray, List.set_cons_zero, List.set_cons_succ]
                refine wpAnyH_take (i := 10) (oi := { dst := some 98, op := Op.move (Operand.tmp 16), type := 3, pos := "law.go:297", after := #[{ on := 4, ground := Ground.guard }], guard := some (4, false) }) (v := ?_) rfl (by kernel_rfl) (by kernel_rfl) (by kernel_rfl) (fun _ _ _ h => h) (Or.inl ⟨by rfl, ?_⟩) (by assumption) ?_
                rotate_left
                · (intro w hSw; (try dsimp only at hSw); go_simp) <;> with_reducible rfl
                try simp only [Act.put, List.setIfInBounds_toArray, List.set_cons_zero, List.set_cons_succ]
                refine wpAnyH_take (i := 11) (oi := { dst := some 99, op := Op.indexAddr 25 (Operand.tmp 97) (Operand.tmp 98), type := 0, pos := "law.go:297", after := #[{ on := 9, ground := Ground.data }, { on := 10, ground := Ground.data }, { on := 4, ground := Ground.guard }], guard := some (4, false) }) (v := ?_) rfl (by kernel_rfl) (by kernel_rfl) (by kernel_rfl) (fun _ _ _ h => h) (Or.inl ⟨by rfl, ?_⟩) (by assumption) ?_
                rotate_left
                · (intro w hSw; (try dsimp only at hSw); go_simp) <;> with_reducible rfl
                try simp only [Act.put, List.setIfInBounds_toArray, List.set_cons_zero, List.set_cons_succ]
                refine wpAnyH_take (i := 12) (oi := { dst := some 100, op := Op.load 43 (Operand.tmp 99), type := 43, pos := "law.go:297", after := #[{ on := 11, ground := Ground.data }, { on := 4, ground := Ground.guard }], guard := some (4, false) }) (v := .agg xs.toArray) rfl (by kernel_rfl) (by kernel_rfl) (by kernel_rfl) (fun _ _ _ h => h) (yieldsIf_load_mid (by kernel_rfl) 43 _ rfl b (off + k * 16) rfl xs _ (fun _ h => h.2) Try.underlying43 rfl qx) (by assumption) ?_
                try simp only [Act.put, List.setIfInBounds_toArray, List.set_cons_zero, List.set_cons_succ]
                refine wpAnyH_ready (rs := [13]) (by kernel_rfl) (by simp) ?_
                refine AllReadyH.cons (o := { dst := some 101, op := Op.call { callee := Callee.value (Operand.func 10), args := #[Operand.tmp 96, Operand.tmp 100], argTypes := #[43, 43] }, type := 4, pos := "law.go:297", after := #[{ on := 8, ground := Ground.data }, { on := 12, ground := Ground.data }, { on := 4, ground := Ground.chain }, { on := 4, ground := Ground.guard }], guard := some (4, false) }) rfl (fun K hK => ?_) AllReadyH.nil
                go_simp
                refine (eqTxn_same ys xs t _ (HY.out.1.below (below_drewN (Below.refl _ _) 1) (Nat.le_refl _)) (HY.out.2.1.below (below_drewN (Below.refl _ _) 1) (Nat.le_refl _))).mono ?_
                rintro _ w9 ⟨rfl, b9⟩
                have HB9 : Hid (Below w8.heap.size w8 w9) := (below_drewN (Below.refl w8.heap.size w8) 1).trans b9
                clear b9
                refine hK.out _ _ (HS8.out _ HB9.out) (fun hHeld => ?_)
                clear hK K
                refine wpAnyH_take (i := 14) (oi := { dst := some 102, op := Op.unOp UnOp.not 4 (Operand.tmp 101), type := 4, pos := "law.go:297", after := #[{ on := 13, ground := Ground.data }, { on := 4, ground := Ground.guard }], guard := some (4, false) }) (v := ?_) rfl (by kernel_rfl) (by kernel_rfl) (by kernel_rfl) (fun _ _ _ h => h) (Or.inl ⟨by rfl, ?_⟩) (by assumption) ?_
                rotate_left
                · (intro w hSw; (try dsimp only at hSw); go_simp) <;> with_reducible rfl
                try simp only [Act.put, List.setIfInBounds_toArray, List.set_cons_zero, List.set_cons_succ]
                refine wpAnyH_take (i := 15) (oi := { dst := some 103, op := Op.pick (Operand.tmp 92) (Operand.const (Value.bool true)) (Operand.tmp 102), type := 4, pos := "law.go:297", after := #[{ on := 4, ground := Ground.data }, { on := 14, ground := Ground.data }], guard := none }) (v := ?_) rfl (by kernel_rfl) (by kernel_rfl) (by kernel_rfl) (fun _ _ _ h => h) (Or.inl ⟨by rfl, ?_⟩) (by assumption) ?_
                rotate_left
                · (intro w hSw; (try dsimp only at hSw); go_simp) <;> with_reducible rfl
                try simp only [Act.put, List.setIfInBounds_toArray, List.set_cons_zero, List.set_cons_succ]
                refine wpAnyH_done (by kernel_rfl) ?_ _
                clear hHeld HS8 HY
                have HB3 : Hid (Below w7.heap.size w7 w9) := HB2.out.trans (HB9.out.mono HB2.out.size)
                clear HB2 HB9
                go_wp2_with fail
                go_roundw
                case rel => exact ⟨k + 1, n + 1, by omega, by go_num, by go_num, HN2, by omega, HB3⟩
                case measure => simp [intOf]; omega
            · obtain rfl : k = l.length := by omega
              have hn9 : n = NF := by rw [HN.out, HNF.out, List.take_length]
              subst hn9
              have HE : Hid (Below w.heap.size w wr) := H7.out.1.trans (HB.out.mono H7.out.1.size)
              clear HN HNF HB
              go_wp2_with fail
              go_ret
              exact ⟨rfl, HE.out⟩
end Go.Proofs.Yteindmdggpahfaa
