/- TxnStairs of the statements of layer 4, walked: true for all that came in. -/
import Derived.Test.YtddecdnidiliaabDoorCopyZ
import Derived.Test.YtddecdnidiliaabDoorWorks4
namespace Go.Proofs.YtddecdnidiliaabDoor
open Go.RowKit
set_option maxRecDepth 8000

theorem rises_drop : ∀ (l : List TxD) (e n : Int) (k : Nat) (hk : k < l.length), rises e n l = true → rises l[k].ep l[k].n (l.drop (k + 1)) = true ∧ rises e n (l.take k) = true ∧ (e < l[k].ep ∨ (e = l[k].ep ∧ n < l[k].n))
  | [], _, _, k, hk, _ => by simp at hk
  | t :: l, e, n, k, hk, h => by
    simp only [rises, Bool.and_eq_true, decide_eq_true_eq] at h
    have hc : e < t.ep ∨ (e = t.ep ∧ n < t.n) := by
      have := h.1
      unfold zcmp at this
      split at this
      · omega
      · split at this <;> omega
    cases k with
    | zero => exact ⟨by simpa using h.2, rfl, hc⟩
    | succ k =>
      obtain ⟨h1, h2, h3⟩ := rises_drop l t.ep t.n k (by simpa using hk) h.2
      refine ⟨by simpa using h1, ?_, ?_⟩
      · simp only [List.take_succ_cons, rises, Bool.and_eq_true, decide_eq_true_eq]
        exact ⟨h.1, h2⟩
      · simp only [List.getElem_cons_succ]
        omega

/-- A part of a list, as Go cuts it. -/
theorem seesTxs_cut {w : World} {ao : Option Addr} {l : List TxD} {cap : Nat} (h : SeesTxs w (.slice ao l.length cap) l) (lo hi : Nat) (h1 : lo ≤ hi) (h2 : hi ≤ l.length) : SeesTxs w (sliced ao lo hi cap 16) ((l.take hi).drop lo) := by
  obtain ⟨cs, ⟨ao', cap', e, g1, g2, g0, g3⟩, hl, hs⟩ := h
  simp at e
  obtain ⟨rfl, _, rfl⟩ := e
  have hlen : ((cs.take hi).drop lo).length = hi - lo := by simp; omega
  refine ⟨(cs.take hi).drop lo, ?_, by simp [hl], fun i hi' hk => ?_⟩
  · unfold sliced
    by_cases hc : cap = lo
    · rw [if_pos hc]
      have : (cs.take hi).drop lo = [] := List.eq_nil_of_length_eq_zero (by rw [hlen]; omega)
      exact ⟨ao, cap - lo, by rw [hlen], by rw [hlen]; omega, by omega, fun _ => by omega, .inl this⟩
    · rw [if_neg hc]
      refine ⟨_, cap - lo, by rw [hlen], by rw [hlen]; omega, by omega, fun e => ?_, ?_⟩
      · cases ao with
        | none => have := g0 rfl; omega
        | some a => simp at e
      · rcases g3 with g3 | ⟨b, off, rfl, g3⟩
        · exact .inl (by rw [g3]; simp)
        · refine .inr ⟨b, off + lo * 16, by simp [addrAdd], fun i hi' j hj => ?_⟩
          rw [hlen] at hi'
          have := g3 (lo + i) (by omega) j hj
          rw [show off + lo * 16 + i * 16 + j = off + (lo + i) * 16 + j by rw [Nat.add_mul]; omega, this]
          simp [List.getElem_drop, List.getElem_take]
  · simp only [List.getElem_drop, List.getElem_take]
    exact hs (lo + i) (by simp at hi'; omega) (by simp at hk; omega)

theorem zpackOk (e n : Int) (h : e ≤ 2147483647) : zpack e n = (e * 4294967296 + n, 0) := by unfold zpack; rw [if_neg (by omega)]
theorem zpackBad (e n : Int) (h : 2147483647 < e) : zpack e n = (0, 1) := by unfold zpack; rw [if_pos h]
theorem elemTx : Tryd.prog.elem 45 = 36 := by kernel_rfl

theorem run_from (ao : Option Addr) (len cap k : Nat) (h : k < len) (hl : len ≤ 9223372036854775807) (w : World) : (Instr.slice 45 (.slice ao len cap) (some (.int .i64 (IntKind.i64.wrap ((k : Int) + 1)))) none none).run Tryd.prog w = .ok (sliced ao (k + 1) len cap 16) w := by
  have e : IntKind.i64.wrap ((k : Int) + 1) = (k : Int) + 1 := by
    simp [IntKind.wrap, IntKind.bits, IntKind.signed]
    omega
  have ht : Tryd.prog.underlying 45 = some (.slice (Tryd.prog.elem 45)) := by kernel_rfl
  have hs : ∀ w, (sizeOf (Tryd.prog.elem 45)).run Tryd.prog w = .ok 16 w := fun w => by kernel_rfl
  rw [e, run_slice_l w 45 ao len cap ht .i64 ((k : Int) + 1) (by omega) (by omega), hs]
  have e1 : ((k : Int) + 1).toNat = k + 1 := by omega
  simp only [Result.andThen, e1]

theorem run_upto (ao : Option Addr) (len cap k : Nat) (h : k ≤ cap) (w : World) : (Instr.slice 45 (.slice ao len cap) none (some (.int .i64 (k : Int))) none).run Tryd.prog w = .ok (sliced ao 0 k cap 16) w := by
  have ht : Tryd.prog.underlying 45 = some (.slice (Tryd.prog.elem 45)) := by kernel_rfl
  have hs : ∀ w, (sizeOf (Tryd.prog.elem 45)).run Tryd.prog w = .ok 16 w := fun w => by kernel_rfl
  rw [run_slice_h w 45 ao len cap ht .i64 (k : Int) (by omega) (by omega), hs]
  simp only [Result.andThen, Int.toNat_natCast]

theorem zx_cells' {w : World} {e n : Int} {W : World} (hb : Below (w.alloc (.cells #[.int .u32 e, .int .u32 n] 26)).heap.size (w.alloc (.cells #[.int .u32 e, .int .u32 n] 26)) W) :
    W.cell? ⟨w.heap.size, 0, none⟩ = some (.int .u32 e) ∧ W.cell? ⟨w.heap.size, 1, none⟩ = some (.int .u32 n) := by
  constructor <;> (refine cell_later ?_ hb (Nat.le_refl _); rw [cell_of_row _ _ _ _ _ _ (heap_alloc_new _ _)]; rfl)

set_option maxHeartbeats 4000000 in
theorem stairs_walk (e n : Int) (v : Value) (l : List TxD) (at_ : Int) (w : World) (hn : Nam w) (h : SeesTxs w v l) (hg : ∀ t ∈ l, t.good) (e0 : 0 ≤ e) (e1 : e ≤ 4294967295) (n0 : 0 ≤ n) (n1 : n ≤ 4294967295) (a1 : at_ ≤ 9223372036854775807) :
    Calls Tryd.prog 4 #[zx e n, v, .int .i64 at_] w fun r w' => r = .returned (.bool true) ∧ Below w.heap.size w w' := by
  obtain ⟨ao, cap, rfl, hlc, hcm⟩ := txs_shape h
  unfold maxLen at hcm
  obtain ⟨V, eV⟩ : ∃ V, V = w.alloc (.cells #[.int .u32 e, .int .u32 n] 26) := ⟨_, rfl⟩
  have HV : Hid (Below w.heap.size w V ∧ Nam V) := by subst eV; exact ⟨one_alloc _ _, hn.below (one_alloc _ _) hn.lt⟩
  have HC : Hid (∀ W, Below V.heap.size V W → (W.cell? ⟨w.heap.size, 0, none⟩ = some (.int .u32 e) ∧ W.cell? ⟨w.heap.size, 1, none⟩ = some (.int .u32 n)) ∧ Below w.heap.size w W ∧ SeesTxs W (.slice ao l.length cap) l) := by
    intro W hW
    have hb := HV.out.1.trans (hW.mono HV.out.1.size)
    subst eV
    exact ⟨zx_cells' hW, hb, h.below hb (Nat.le_refl _)⟩
  have HG : Hid (∀ t ∈ l, t.good) := hg
  have HE : Hid _ := eV
  clear eV hn h hg
  go_enter Tryd.func4, Tryd.ntmps4
  go_wp2_with fail
  rw [← HE.out]
  refine (works4_any _ HV.out.2).mono ?_
  rintro r w1 ⟨rfl, b⟩
  have HB1 : Hid (Below V.heap.size V w1) := b
  clear b HE
  go_wp2_with fail
  refine (largeTxns_any _ l _ (HC.out _ HB1.out).2.2 HG.out).mono ?_
  rintro r w2 ⟨bl, rfl, hbl, b⟩
  have HB2 : Hid (Below V.heap.size V w2) := HB1.out.trans (b.mono HB1.out.size)
  clear b HB1
  cases bl
  · have HL : Hid (l.length ≤ 1000000 ∧ ∀ t ∈ l, t.rq.parts ≤ 20000) := hbl rfl
    clear hbl
    have hd2 : Below V.heap.size V w2.drew := below_drewN HB2.out 1
    have k0 := (HC.out _ hd2).1
    obtain ⟨k00, k01⟩ := (HC.out _ HB2.out).1
    have HD2 : Hid (Below V.heap.size V w2.drew) := hd2
    clear hd2
    go_wp2_with fail
    go_region_held (fun w' => w'.cell? ⟨w.heap.size, 0, none⟩ = some (.int .u32 e) ∧ w'.cell? ⟨w.heap.size, 1, none⟩ = some (.int .u32 n)) (first | exact k0 | exact k1 | exact k2)
      (first
      | (go_at_call 12; refine (copyTxns_any _ l _ (HC.out _ HD2.out).2.2 HL.out.1 HL.out.2).mono ?_; rintro r w3 ⟨u, rfl, hz, b⟩; obtain ⟨ua, uc, rfl, _, _⟩ := id hz.shape; have HB3 : Hid (Below V.heap.size V w3 ∧ SeesZs w3 _ l) := ⟨HD2.out.trans (b.mono HD2.out.size), hz⟩; have k1 := (HC.out _ HB3.out.1).1; clear k0 b hz HD2)
      | (go_at_call 11; refine (rises_any e n _ l _ HB3.out.2).mono ?_; rintro r w4 ⟨rfl, b⟩; have HB4 : Hid (Below V.heap.size V w4) := HB3.out.1.trans (b.mono HB3.out.1.size); have k2 := (HC.out _ HB4.out).1; clear k1 b HB3))
    clear k00 k01 HB2
    cases hr : rises e n l
    · clear k2
      go_wp2_with fail
      go_ret
      exact ⟨rfl, (HC.out _ HB4.out).2.1⟩
    · by_cases ha : 0 ≤ at_ ∧ at_ < l.length
      · obtain ⟨k, rfl⟩ := Int.eq_ofNat_of_zero_le ha.1
        have hk : k < l.length := by omega
        obtain ⟨b, off, cap', rc, hv, _, _, _, hat⟩ := txs_at (HC.out _ HB4.out).2.2 k hk
        simp at hv
        obtain ⟨rfl, rfl⟩ := hv
        have HA : Hid (∀ W, Below w4.heap.size w4 W → W.cell? ⟨b, off + k * 16, none⟩ = some (.int .u32 l[k].ep) ∧ W.cell? ⟨b, off + k * 16 + 1, none⟩ = some (.int .u32 l[k].n)) := fun W hW =>
          ⟨cell_later (hat 0 (by omega)) hW (Nat.le_refl _), cell_later (hat 1 (by omega)) hW (Nat.le_refl _)⟩
        have HRS : Hid _ := rises_drop l e n k hk hr
        have HA2 : Hid (∀ W, Below V.heap.size V W → W.cell? ⟨b, off + k * 16, none⟩ = some (.int .u32 l[k].ep) ∧ W.cell? ⟨b, off + k * 16 + 1, none⟩ = some (.int .u32 l[k].n)) := fun W hW => by
          obtain ⟨b', off', cap', rc, hv, _, _, _, hat'⟩ := txs_at (HC.out _ hW).2.2 k hk
          simp at hv
          obtain ⟨⟨rfl, rfl⟩, _⟩ := hv
          exact ⟨hat' 0 (by omega), hat' 1 (by omega)⟩
        obtain ⟨P1, hP1⟩ : ∃ P1, P1 = sliced (some ⟨b, off, none⟩) (k + 1) l.length cap 16 := ⟨_, rfl⟩
        obtain ⟨P2, hP2⟩ : ∃ P2, P2 = sliced (some ⟨b, off, none⟩) 0 k cap 16 := ⟨_, rfl⟩
        have hsl1 : ∀ w, (Instr.slice 45 (.slice (some ⟨b, off, none⟩) l.length cap) (some (.int .i64 (IntKind.i64.wrap ((k : Int) + 1)))) none none).run Tryd.prog w = .ok P1 w := fun w => by rw [hP1]; exact run_from _ _ _ _ hk (by omega) w
        have hsl2 : ∀ w, (Instr.slice 45 (.slice (some ⟨b, off, none⟩) l.length cap) none (some (.int .i64 (k : Int))) none).run Tryd.prog w = .ok P2 w := fun w => by rw [hP2]; exact run_upto _ _ _ _ (by omega) w
        have HP : Hid (∀ W, Below V.heap.size V W → SeesTxs W P1 (l.drop (k + 1)) ∧ SeesTxs W P2 (l.take k)) := fun W hW => by
          have h1 := seesTxs_cut (HC.out _ hW).2.2 (k + 1) l.length (by omega) (Nat.le_refl _)
          have h2 := seesTxs_cut (HC.out _ hW).2.2 0 k (by omega) (by omega)
          rw [List.take_length] at h1
          rw [List.drop_zero] at h2
          rw [hP1, hP2]
          exact ⟨h1, h2⟩
        have HM : Hid (((l.drop (k + 1)).length ≤ 1000000 ∧ ∀ t ∈ l.drop (k + 1), t.rq.parts ≤ 20000) ∧ (l.take k).length ≤ 1000000 ∧ ∀ t ∈ l.take k, t.rq.parts ≤ 20000) := by
          refine ⟨⟨?_, fun t ht => HL.out.2 t (List.mem_of_mem_drop ht)⟩, ?_, fun t ht => HL.out.2 t (List.mem_of_mem_take ht)⟩
          · have := HL.out.1; simp; omega
          · have := HL.out.1; simp; omega
        have HT : Hid (0 ≤ l[k].ep ∧ l[k].ep ≤ 4294967295 ∧ 0 ≤ l[k].n ∧ l[k].n ≤ 4294967295) := by
          have := HG.out l[k] (List.getElem_mem hk)
          exact ⟨this.e0, this.e1, this.n0, this.n1⟩
        have hd4 : Below w4.heap.size w4 w4.drew := below_drewN (Below.refl _ _) 1
        have j0 := HA.out _ hd4
        obtain ⟨j00, j01⟩ := HA.out _ (Below.refl _ _)
        have HD4 : Hid (Below w4.heap.size w4 w4.drew) := hd4
        have ha2 : (k : Int) < l.length := by omega
        have hk0 : (0 : Int) ≤ k := by omega
        clear hd4 hat hP1 hP2 k2 ha hr HL
        generalize l[k] = t at *
        generalize l.drop (k + 1) = l1 at *
        generalize l.take k = l2 at *
        go_wp2_with fail
        go_region_held (fun w' => w'.cell? ⟨b, off + k * 16, none⟩ = some (.int .u32 t.ep) ∧ w'.cell? ⟨b, off + k * 16 + 1, none⟩ = some (.int .u32 t.n)) (first | exact j0 | exact j1 | exact j2)
          (first
          | (go_at_call 12; refine (copyTxns_any _ l1 _ (HP.out _ (HB4.out.trans (HD4.out.mono HB4.out.size))).1 HM.out.1.1 HM.out.1.2).mono ?_; rintro r w5 ⟨u, rfl, hz, b5⟩; obtain ⟨ua', uc', rfl, _, _⟩ := id hz.shape; have HB5 : Hid (Below w4.heap.size w4 w5 ∧ SeesZs w5 _ l1) := ⟨HD4.out.trans (b5.mono HD4.out.size), hz⟩; have j1 := HA.out _ HB5.out.1; clear j0 b5 hz HD4)
          | (go_at_call 11; refine (rises_any t.ep t.n _ l1 _ HB5.out.2).mono ?_; rintro r w6 ⟨rfl, b6⟩; have HB6 : Hid (Below w4.heap.size w4 w6) := HB5.out.1.trans (b6.mono HB5.out.1.size); have j2 := HA.out _ HB6.out; clear j1 b6 HB5))
        rw [HRS.out.1]
        have hv6 : Below V.heap.size V w6 := HB4.out.trans (HB6.out.mono HB4.out.size)
        have hd6 : Below V.heap.size V w6.drew := below_drewN hv6 1
        have k0 := (HC.out _ hd6).1
        obtain ⟨k00, k01⟩ := (HC.out _ hv6).1
        have HD6 : Hid (Below V.heap.size V w6.drew) := hd6
        clear hd6 hv6 HB6 HB4 j00 j01 j2
        go_wp2_with fail
        go_region_held (fun w' => w'.cell? ⟨w.heap.size, 0, none⟩ = some (.int .u32 e) ∧ w'.cell? ⟨w.heap.size, 1, none⟩ = some (.int .u32 n)) (first | exact k0 | exact k1 | exact k2)
          (first
          | (go_at_call 12; refine (copyTxns_any _ l2 _ (HP.out _ HD6.out).2 HM.out.2.1 HM.out.2.2).mono ?_; rintro r w7 ⟨u, rfl, hz, b7⟩; obtain ⟨ub', ud', rfl, _, _⟩ := id hz.shape; have HB7 : Hid (Below V.heap.size V w7 ∧ SeesZs w7 _ l2) := ⟨HD6.out.trans (b7.mono HD6.out.size), hz⟩; have k1 := (HC.out _ HB7.out.1).1; clear k0 b7 hz HD6)
          | (go_at_call 11; refine (rises_any e n _ l2 _ HB7.out.2).mono ?_; rintro r w8 ⟨rfl, b8⟩; have HB8 : Hid (Below V.heap.size V w8) := HB7.out.1.trans (b8.mono HB7.out.1.size); have k2 := (HC.out _ HB8.out).1; clear k1 b8 HB7))
        rw [HRS.out.2.1]
        clear k00 k01
        obtain ⟨k20, k21⟩ := k2
        go_wp2_with fail
        refine (pack_any e n _ e0 e1 n0 n1).mono ?_
        rintro r w9 ⟨rfl, b9⟩
        have HB9 : Hid (Below V.heap.size V w9) := HB8.out.trans (b9.mono HB8.out.size)
        clear b9 HB8 k20 k21
        obtain ⟨j0, j1⟩ := HA2.out _ HB9.out
        go_wp2_with fail
        refine (pack_any t.ep t.n _ HT.out.1 HT.out.2.1 HT.out.2.2.1 HT.out.2.2.2).mono ?_
        rintro r w10 ⟨rfl, b10⟩
        have HB10 : Hid (Below w.heap.size w w10) := (HC.out _ (HB9.out.trans (b10.mono HB9.out.size))).2.1
        clear b10 HB9 j0 j1
        have hlt := HRS.out.2.2
        have ht := HT.out
        by_cases hea : e ≤ 2147483647
        · by_cases hfa : t.ep ≤ 2147483647
          · rw [zpackOk e n hea, zpackOk t.ep t.n hfa]
            have hpq : e * 4294967296 + n < t.ep * 4294967296 + t.n := by omega
            generalize e * 4294967296 + n = p at *
            generalize t.ep * 4294967296 + t.n = q at *
            have hpq' : decide (p < q) = true := by simpa using hpq
            go_wp2
            go_ret
            exact ⟨rfl, HB10.out⟩
          · rw [zpackOk e n hea, zpackBad t.ep t.n (by omega)]
            go_wp2
            go_ret
            exact ⟨rfl, HB10.out⟩
        · rw [zpackBad e n (by omega)]
          go_wp2
          go_ret
          exact ⟨rfl, HB10.out⟩
      · by_cases ha0 : at_ < 0
        · have hb0 : decide (at_ < 0) = true := by simpa using ha0
          clear k2
          go_wp2_with fail
          go_ret
          exact ⟨rfl, (HC.out _ HB4.out).2.1⟩
        · have hb0 : decide (at_ < 0) = false := by simpa using ha0
          have hb1 : decide ((l.length : Int) ≤ at_) = true := by simp; omega
          clear k2
          go_wp2_with fail
          go_ret
          exact ⟨rfl, (HC.out _ HB4.out).2.1⟩
  · go_wp2_with fail
    go_ret
    exact ⟨rfl, (HC.out _ HB2.out).2.1⟩
end Go.Proofs.YtddecdnidiliaabDoor
