/- EqRequest, EqTxn and EqTxns of lagoonref00 at any data: true only where the data are the same; nothing that was there is changed. -/
import Derived.Test.YtoeialngbbfoeaaGreatDoorEqGJ
import Derived.Test.YtoeialngbbfoeaaGreatDoorEqQJ
import Derived.Test.YtoeialngbbfoeaaGreatDoorChCJ
import Derived.Deep.RegionHeld
import Derived.Deep.RegionHeld2
namespace Go.Proofs.YtoeialngbbfoeaaGreatDoor
open Go.RowKit
set_option maxRecDepth 8000

theorem rq_range {w : World} {v : Value} {n : Nat} {oc : Fin n → List Value} {b off cap : Nat} (h : SeesR w v 11 (List.ofFn oc)) (hv : v = .slice (some ⟨b, off, none⟩) n cap) (k : Nat) (hk : k < n) (hl : (oc ⟨k, hk⟩).length = 11) : w.rangeAt b (off + k * 11) (oc ⟨k, hk⟩) := by
  obtain ⟨ao, c, e, _, _, _, h3⟩ := h
  rw [hv] at e
  simp at e
  obtain ⟨rfl, _⟩ := e
  intro j u hj
  rcases h3 with h3 | ⟨b', off', e', h3⟩
  · have : n = 0 := by simpa using congrArg List.length h3
    omega
  · simp at e'
    obtain ⟨rfl, rfl⟩ := e'
    have hjl : j < 11 := by
      rcases Nat.lt_or_ge j (oc ⟨k, hk⟩).length with h | h
      · omega
      · rw [List.getElem?_eq_none h] at hj; cases hj
    have := h3 k (by simpa using hk) j hjl
    rw [this, List.getElem_ofFn, List.getD_eq_getElem?_getD, hj]
    rfl

set_option maxHeartbeats 2000000 in
theorem eqRequest_sound (r : Rq) : ∀ (r' : Rq) (cs ds : List Value) (w : World), SeesRq w cs r → SeesRq w ds r' → Calls Tryz.prog 21 #[.agg cs.toArray, .agg ds.toArray] w fun e w' => ∃ b : Bool, e = .returned (.bool b) ∧ (b = true → r = r') ∧ Below w.heap.size w w' := by
  induction r with
  | mk f n ops ih =>
    intro r' cs ds w hcs hds
    obtain ⟨f', n', ops'⟩ := r'
    obtain ⟨dv, av, wv, ov, oc, rfl, hd, ha, hw, ho, hs⟩ := rq_inv hcs
    obtain ⟨dv', av', wv', ov', oc', rfl, hd', ha', hw', ho', hs'⟩ := rq_inv hds
    obtain ⟨kind, path, data, acl, ver, eph, seq, ses, tmo, who⟩ := f
    obtain ⟨kind', path', data', acl', ver', eph', seq', ses', tmo', who'⟩ := f'
    simp only at hd ha hw hd' ha' hw'
    have HD : Hid (∀ W : World, Below w.heap.size w W → Calls Tryz.prog 78 #[dv, dv'] W fun e w' => ∃ b : Bool, e = .returned (.bool b) ∧ (b = true → data = data') ∧ Below W.heap.size W w') := fun W hW => by
      refine (eqBytes_any dv dv' data data' W (hd.below hW (Nat.le_refl _)) (hd'.below hW (Nat.le_refl _))).mono ?_
      rintro e w' ⟨rfl, h⟩
      exact ⟨_, rfl, fun h => of_decide_eq_true h, below_of_drewN h⟩
    have HA : Hid (∀ W : World, Below w.heap.size w W → Calls Tryz.prog 79 #[av, av'] W fun e w' => ∃ b : Bool, e = .returned (.bool b) ∧ (b = true → acl = acl') ∧ Below W.heap.size W w') := fun W hW => by
      refine (eqAcl_sound av av' acl acl' W (ha.below hW (Nat.le_refl _)) (ha'.below hW (Nat.le_refl _))).mono ?_
      rintro e w' ⟨b, rfl, hb, h⟩
      exact ⟨b, rfl, hb, below_of_drewN h⟩
    have HW : Hid (∀ W : World, Below w.heap.size w W → Calls Tryz.prog 80 #[wv, wv'] W fun e w' => ∃ b : Bool, e = .returned (.bool b) ∧ (b = true → who = who') ∧ Below W.heap.size W w') := fun W hW => by
      refine (eqIds_sound wv wv' who who' W (hw.below hW (Nat.le_refl _)) (hw'.below hW (Nat.le_refl _))).mono ?_
      rintro e w' ⟨b, rfl, hb, h⟩
      exact ⟨b, rfl, hb, below_of_drewN h⟩
    obtain ⟨dx0, dx1, dx2, rfl⟩ := sees_form hd
    obtain ⟨ax0, ax1, ax2, rfl⟩ := seesR_form ha
    obtain ⟨wx0, wx1, wx2, rfl⟩ := seesR_form hw
    obtain ⟨dy0, dy1, dy2, rfl⟩ := sees_form hd'
    obtain ⟨ay0, ay1, ay2, rfl⟩ := seesR_form ha'
    obtain ⟨wy0, wy1, wy2, rfl⟩ := seesR_form hw'
    obtain ⟨ox0, ox2, e1⟩ := seesR_shape ho
    obtain ⟨oy0, oy2, e2⟩ := seesR_shape ho'
    rw [List.length_ofFn] at e1 e2
    subst e1 e2
    have HO : Hid (SeesR w (.slice ox0 n ox2) 11 (List.ofFn oc) ∧ SeesR w (.slice oy0 n' oy2) 11 (List.ofFn oc')) := ⟨ho, ho'⟩
    have HI : Hid _ := ih
    have hcap : n ≤ ox2 ∧ n' ≤ oy2 ∧ ox2 ≤ 9223372036854775807 ∧ oy2 ≤ 9223372036854775807 := by
      obtain ⟨a1, c1, q1, q2, q3, _⟩ := ho
      obtain ⟨a2, c2, r1, r2, r3, _⟩ := ho'
      simp at q1 r1 q2 r2
      unfold maxLen at q3 r3
      omega
    obtain ⟨hcx, hcy, hcx', hcy'⟩ := hcap
    have HSS0 : Hid ((∀ i, SeesRq w (oc i) (ops i)) ∧ ∀ i, SeesRq w (oc' i) (ops' i)) := ⟨hs, hs'⟩
    clear hd ha hw hd' ha' hw' hcs hds ho ho' ih hs hs'
    simp only [rqCells]
    obtain ⟨V, eV⟩ : ∃ V, V = (w.alloc (.cells #[.int .i8 kind, .string path, .slice dx0 dx1 dx2, .slice ax0 ax1 ax2, .int .i32 ver, .bool eph, .bool seq, .int .i64 ses, .int .i32 tmo, .slice wx0 wx1 wx2, .slice ox0 n ox2] 33)).alloc (.cells #[.int .i8 kind', .string path', .slice dy0 dy1 dy2, .slice ay0 ay1 ay2, .int .i32 ver', .bool eph', .bool seq', .int .i64 ses', .int .i32 tmo', .slice wy0 wy1 wy2, .slice oy0 n' oy2] 33) := ⟨_, rfl⟩
    have HV : Hid (Below w.heap.size w V) := by subst eV; exact two_alloc _ _ _
    have HC : Hid (∀ W, Below V.heap.size V W → W.heap[w.heap.size]? = some (.cells #[.int .i8 kind, .string path, .slice dx0 dx1 dx2, .slice ax0 ax1 ax2, .int .i32 ver, .bool eph, .bool seq, .int .i64 ses, .int .i32 tmo, .slice wx0 wx1 wx2, .slice ox0 n ox2] 33 (0, 0)) ∧ W.heap[w.heap.size + 1]? = some (.cells #[.int .i8 kind', .string path', .slice dy0 dy1 dy2, .slice ay0 ay1 ay2, .int .i32 ver', .bool eph', .bool seq', .int .i64 ses', .int .i32 tmo', .slice wy0 wy1 wy2, .slice oy0 n' oy2] 33 (0, 0))) := by
      intro W hW
      have hx : V.heap[w.heap.size]? = some (.cells #[.int .i8 kind, .string path, .slice dx0 dx1 dx2, .slice ax0 ax1 ax2, .int .i32 ver, .bool eph, .bool seq, .int .i64 ses, .int .i32 tmo, .slice wx0 wx1 wx2, .slice ox0 n ox2] 33 (0, 0)) := by subst eV; rw [Below.heap_alloc _ _ _ (by simp)]; exact heap_alloc_new _ _
      have hy : V.heap[w.heap.size + 1]? = some (.cells #[.int .i8 kind', .string path', .slice dy0 dy1 dy2, .slice ay0 ay1 ay2, .int .i32 ver', .bool eph', .bool seq', .int .i64 ses', .int .i32 tmo', .slice wy0 wy1 wy2, .slice oy0 n' oy2] 33 (0, 0)) := by
        subst eV
        have := heap_alloc_new (w.alloc (.cells #[.int .i8 kind, .string path, .slice dx0 dx1 dx2, .slice ax0 ax1 ax2, .int .i32 ver, .bool eph, .bool seq, .int .i64 ses, .int .i32 tmo, .slice wx0 wx1 wx2, .slice ox0 n ox2] 33)) (.cells #[.int .i8 kind', .string path', .slice dy0 dy1 dy2, .slice ay0 ay1 ay2, .int .i32 ver', .bool eph', .bool seq', .int .i64 ses', .int .i32 tmo', .slice wy0 wy1 wy2, .slice oy0 n' oy2] 33 (0, 0))
        simpa using this
      exact ⟨(Below.kept hW).heap hx (by have := lt_of_block hx; omega), (Below.kept hW).heap hy (by have := lt_of_block hy; omega)⟩
    have HE : Hid _ := eV
    clear eV
    have HF : Hid (∀ b : Bool, b = false → ∀ W, Below w.heap.size w W → ∃ b' : Bool, (Ending.returned (Value.bool b) : Ending) = .returned (.bool b') ∧ (b' = true → Rq.mk ⟨kind, path, data, acl, ver, eph, seq, ses, tmo, who⟩ n ops = Rq.mk ⟨kind', path', data', acl', ver', eph', seq', ses', tmo', who'⟩ n' ops') ∧ Below w.heap.size w W) := fun b hb W hW => ⟨b, rfl, (fun h => by rw [hb] at h; cases h), hW⟩
    go_enter Tryz.func21, Tryz.ntmps21
    by_cases q_kind : kind = kind'
    case neg =>
      have q_kind' : (kind != kind') = true := by simpa using q_kind
      go_wp2_with fail
      go_ret
      exact HF.out false rfl _ (two_alloc _ _ _)
    subst q_kind
    cases q_path : (path.toList == path'.toList)
    case false =>
      go_wp2_with fail
      go_ret
      exact HF.out false rfl _ (two_alloc _ _ _)
    obtain rfl := bytes_same q_path
    clear q_path
    by_cases q_ver : ver = ver'
    case neg =>
      have q_ver' : (ver != ver') = true := by simpa using q_ver
      go_wp2_with fail
      go_ret
      exact HF.out false rfl _ (two_alloc _ _ _)
    subst q_ver
    by_cases q_eph : eph = eph'
    case neg =>
      have q_eph' : (eph != eph') = true := by simpa using q_eph
      go_wp2_with fail
      go_ret
      exact HF.out false rfl _ (two_alloc _ _ _)
    subst q_eph
    by_cases q_seq : seq = seq'
    case neg =>
      have q_seq' : (seq != seq') = true := by simpa using q_seq
      go_wp2_with fail
      go_ret
      exact HF.out false rfl _ (two_alloc _ _ _)
    subst q_seq
    by_cases q_ses : ses = ses'
    case neg =>
      have q_ses' : (ses != ses') = true := by simpa using q_ses
      go_wp2_with fail
      go_ret
      exact HF.out false rfl _ (two_alloc _ _ _)
    subst q_ses
    by_cases q_tmo : tmo = tmo'
    case neg =>
      have q_tmo' : (tmo != tmo') = true := by simpa using q_tmo
      go_wp2_with fail
      go_ret
      exact HF.out false rfl _ (two_alloc _ _ _)
    subst q_tmo
    go_wp2_with fail
    rw [← HE.out]
    refine (HD.out _ HV.out).mono ?_
    rintro _ w1 ⟨b1, rfl, hb1, bb1⟩
    have HB1 : Hid (Below V.heap.size V w1) := bb1
    clear bb1 HD HE
    cases b1
    · clear hb1
      go_wp2_with fail
      go_ret
      exact HF.out false rfl _ (HV.out.trans (HB1.out.mono HV.out.size))
    have Hd1 : Hid (data = data') := hb1 rfl
    clear hb1
    have x3 : w1.cell? ⟨w.heap.size, 3, none⟩ = some (.slice ax0 ax1 ax2) := cellAt (HC.out _ HB1.out).1 rfl
    have y3 : w1.cell? ⟨w.heap.size + 1, 3, none⟩ = some (.slice ay0 ay1 ay2) := cellAt (HC.out _ HB1.out).2 rfl
    go_wp2_with fail
    refine (HA.out _ (HV.out.trans (HB1.out.mono HV.out.size))).mono ?_
    rintro _ w2 ⟨b2, rfl, hb2, bb2⟩
    have HB2 : Hid (Below V.heap.size V w2) := HB1.out.trans (bb2.mono HB1.out.size)
    clear bb2 HA HB1 x3 y3
    cases b2
    · clear hb2
      go_wp2_with fail
      go_ret
      exact HF.out false rfl _ (HV.out.trans (HB2.out.mono HV.out.size))
    have Hd2 : Hid (acl = acl') := hb2 rfl
    clear hb2
    have x9 : w2.cell? ⟨w.heap.size, 9, none⟩ = some (.slice wx0 wx1 wx2) := cellAt (HC.out _ HB2.out).1 rfl
    have y9 : w2.cell? ⟨w.heap.size + 1, 9, none⟩ = some (.slice wy0 wy1 wy2) := cellAt (HC.out _ HB2.out).2 rfl
    go_wp2_with fail
    refine (HW.out _ (HV.out.trans (HB2.out.mono HV.out.size))).mono ?_
    rintro _ w3 ⟨b3, rfl, hb3, bb3⟩
    have HB3 : Hid (Below V.heap.size V w3) := HB2.out.trans (bb3.mono HB2.out.size)
    clear bb3 HW HB2 x9 y9
    cases b3
    · clear hb3
      go_wp2_with fail
      go_ret
      exact HF.out false rfl _ (HV.out.trans (HB3.out.mono HV.out.size))
    have Hd3 : Hid (who = who') := hb3 rfl
    clear hb3
    have x10 : w3.cell? ⟨w.heap.size, 10, none⟩ = some (.slice ox0 n ox2) := cellAt (HC.out _ HB3.out).1 rfl
    have y10 : w3.cell? ⟨w.heap.size + 1, 10, none⟩ = some (.slice oy0 n' oy2) := cellAt (HC.out _ HB3.out).2 rfl
    by_cases hnn : n = n'
    case neg =>
      have hnn' : ((n : Int) != (n' : Int)) = true := by simp; omega
      go_wp2_with fail
      go_ret
      exact HF.out false rfl _ (HV.out.trans (HB3.out.mono HV.out.size))
    subst hnn
    have HS : Hid (∀ W : World, Below w.heap.size w W → ∀ i, SeesRq W (oc i) (ops i) ∧ SeesRq W (oc' i) (ops' i)) := fun W hW i => ⟨(HSS0.out.1 i).later hW (Nat.le_refl _), (HSS0.out.2 i).later hW (Nat.le_refl _)⟩
    go_wp2_with fail
    go_loopw [4, 5] (fun _ i wr => ∃ k : Nat, k ≤ n ∧ i = .int .i64 k ∧ Hid (Below V.heap.size V wr) ∧ Hid (∀ i : Fin n, i.1 < k → ops i = ops' i)) (fun _ i _ => n - (intOf i).toNat)
    case atStart => exact ⟨0, Nat.zero_le _, rfl, HB3, fun i h => by omega⟩
    case round =>
      obtain ⟨k, hk, rfl, HB, HEQ⟩ := hrel
      clear HB3 x10 y10
      have x10 : wr.cell? ⟨w.heap.size, 10, none⟩ = some (.slice ox0 n ox2) := cellAt (HC.out _ HB.out).1 rfl
      have y10 : wr.cell? ⟨w.heap.size + 1, 10, none⟩ = some (.slice oy0 n oy2) := cellAt (HC.out _ HB.out).2 rfl
      by_cases hlt : k < n
      · obtain ⟨bx, ofx, rfl⟩ : ∃ bx ofx, ox0 = some ⟨bx, ofx, none⟩ := by
          obtain ⟨a1, c1, q1, _, _, _, h3⟩ := HO.out.1
          simp at q1
          obtain ⟨rfl, rfl⟩ := q1
          rcases h3 with h3 | ⟨bx, ofx, rfl, h3⟩
          · have : n = 0 := by simpa using congrArg List.length h3
            omega
          · exact ⟨bx, ofx, rfl⟩
        obtain ⟨b_y, ofy, rfl⟩ : ∃ bx ofx, oy0 = some ⟨bx, ofx, none⟩ := by
          obtain ⟨a1, c1, q1, _, _, _, h3⟩ := HO.out.2
          simp at q1
          obtain ⟨rfl, rfl⟩ := q1
          rcases h3 with h3 | ⟨bx, ofx, rfl, h3⟩
          · have : n = 0 := by simpa using congrArg List.length h3
            omega
          · exact ⟨bx, ofx, rfl⟩
        have HWR : Hid (Below w.heap.size w wr) := HV.out.trans (HB.out.mono HV.out.size)
        have lx := (HSS0.out.1 ⟨k, hlt⟩).len
        have ly := (HSS0.out.2 ⟨k, hlt⟩).len
        have qx11 : (Tryz.prog.info? 33).map (·.size) = some (oc ⟨k, hlt⟩).length := by rw [lx]; exact rq_size
        have qy11 : (Tryz.prog.info? 33).map (·.size) = some (oc' ⟨k, hlt⟩).length := by rw [ly]; exact rq_size
        have HSS : Hid (∀ W, Below wr.heap.size wr W → W.cell? ⟨w.heap.size, 10, none⟩ = some (.slice (some ⟨bx, ofx, none⟩) n ox2) ∧ W.cell? ⟨w.heap.size + 1, 10, none⟩ = some (.slice (some ⟨b_y, ofy, none⟩) n oy2) ∧ W.rangeAt bx (ofx + k * 11) (oc ⟨k, hlt⟩) ∧ W.rangeAt b_y (ofy + k * 11) (oc' ⟨k, hlt⟩)) := fun W hW => by
          have hb := HWR.out.trans (hW.mono HWR.out.size)
          have hbv := HB.out.trans (hW.mono HB.out.size)
          exact ⟨cellAt (HC.out _ hbv).1 rfl, cellAt (HC.out _ hbv).2 rfl, rq_range (HO.out.1.below hb (Nat.le_refl _)) rfl k hlt lx, rq_range (HO.out.2.below hb (Nat.le_refl _)) rfl k hlt ly⟩
        clear lx ly
        go_upto_region 8 with fail
        refine wp_region_held_drew (S := (fun W => W.cell? ⟨w.heap.size, 10, none⟩ = some (.slice (some ⟨bx, ofx, none⟩) n ox2) ∧ W.cell? ⟨w.heap.size + 1, 10, none⟩ = some (.slice (some ⟨b_y, ofy, none⟩) n oy2) ∧ W.rangeAt bx (ofx + k * 11) (oc ⟨k, hlt⟩) ∧ W.rangeAt b_y (ofy + k * 11) (oc' ⟨k, hlt⟩))) (by kernel_rfl) ?_ (fun hHeld => ?_)
        · exact HSS.out _ (below_drewN (Below.refl _ _) 1)
        refine wpAnyH_take (i := 0) (oi := { dst := some 91, op := Op.fieldAddr 33 (Operand.tmp 2) 10, type := 0, pos := "equal.go:79", after := #[], guard := none }) (v := ?_) rfl (by kernel_rfl) (by kernel_rfl) (by kernel_rfl) (fun _ _ _ h => h) (Or.inl ⟨by rfl, ?_⟩) (by assumption) ?_
        rotate_left
        · (intro w hSw; (try dsimp only at hSw); go_simp) <;> with_reducible rfl
        try simp only [Act.put, List.setIfInBounds_toArray, List.set_cons_zero, List.set_cons_succ]
        refine wpAnyH_take (i := 1) (oi := { dst := some 92, op := Op.load 31 (Operand.tmp 91), type := 31, pos := "equal.go:79", after := #[{ on := 0, ground := Ground.data }], guard := none }) (v := ?_) rfl (by kernel_rfl) (by kernel_rfl) (by kernel_rfl) (fun _ _ _ h => h) (Or.inl ⟨by rfl, ?_⟩) (by assumption) ?_
        rotate_left
        · (intro w hSw; (try dsimp only at hSw); go_simp) <;> with_reducible rfl
        try simp only [Act.put, List.setIfInBounds_toArray, List.set_cons_zero, List.set_cons_succ]
        refine wpAnyH_take (i := 2) (oi := { dst := some 93, op := Op.move (Operand.tmp 5), type := 3, pos := "equal.go:79", after := #[], guard := none }) (v := ?_) rfl (by kernel_rfl) (by kernel_rfl) (by kernel_rfl) (fun _ _ _ h => h) (Or.inl ⟨by rfl, ?_⟩) (by assumption) ?_
        rotate_left
        · (intro w hSw; (try dsimp only at hSw); go_simp) <;> with_reducible rfl
        try simp only [Act.put, List.setIfInBounds_toArray, List.set_cons_zero, List.set_cons_succ]
        refine wpAnyH_take (i := 3) (oi := { dst := some 94, op := Op.indexAddr 31 (Operand.tmp 92) (Operand.tmp 93), type := 0, pos := "equal.go:79", after := #[{ on := 1, ground := Ground.data }, { on := 2, ground := Ground.data }], guard := none }) (v := ?_) rfl (by kernel_rfl) (by kernel_rfl) (by kernel_rfl) (fun _ _ _ h => h) (Or.inl ⟨by rfl, ?_⟩) (by assumption) ?_
        rotate_left
        · (intro w hSw; (try dsimp only at hSw); go_simp) <;> with_reducible rfl
        try simp only [Act.put, List.setIfInBounds_toArray, List.set_cons_zero, List.set_cons_succ]
        refine wpAnyH_take (i := 4) (oi := { dst := some 95, op := Op.load 33 (Operand.tmp 94), type := 33, pos := "equal.go:79", after := #[{ on := 3, ground := Ground.data }], guard := none }) (v := .agg (oc ⟨k, hlt⟩).toArray) rfl (by kernel_rfl) (by kernel_rfl) (by kernel_rfl) (fun _ _ _ h => h) (yieldsIf_load_mid rfl 33 _ rfl bx (ofx + k * 11) rfl (oc ⟨k, hlt⟩) _ (fun _ h => h.2.2.1) Tryz.underlying33 rfl qx11) (by assumption) ?_
        try simp only [Act.put, List.setIfInBounds_toArray, List.set_cons_zero, List.set_cons_succ]
        refine wpAnyH_take (i := 5) (oi := { dst := some 96, op := Op.fieldAddr 33 (Operand.tmp 3) 10, type := 0, pos := "equal.go:79", after := #[], guard := none }) (v := ?_) rfl (by kernel_rfl) (by kernel_rfl) (by kernel_rfl) (fun _ _ _ h => h) (Or.inl ⟨by rfl, ?_⟩) (by assumption) ?_
        rotate_left
        · (intro w hSw; (try dsimp only at hSw); go_simp) <;> with_reducible rfl
        try simp only [Act.put, List.setIfInBounds_toArray, List.set_cons_zero, List.set_cons_succ]
        refine wpAnyH_take (i := 6) (oi := { dst := some 97, op := Op.load 31 (Operand.tmp 96), type := 31, pos := "equal.go:79", after := #[{ on := 5, ground := Ground.data }], guard := none }) (v := ?_) rfl (by kernel_rfl) (by kernel_rfl) (by kernel_rfl) (fun _ _ _ h => h) (Or.inl ⟨by rfl, ?_⟩) (by assumption) ?_
        rotate_left
        · (intro w hSw; (try dsimp only at hSw); go_simp) <;> with_reducible rfl
        try simp only [Act.put, List.setIfInBounds_toArray, List.set_cons_zero, List.set_cons_succ]
        refine wpAnyH_take (i := 7) (oi := { dst := some 98, op := Op.move (Operand.tmp 5), type := 3, pos := "equal.go:79", after := #[], guard := none }) (v := ?_) rfl (by kernel_rfl) (by kernel_rfl) (by kernel_rfl) (fun _ _ _ h => h) (Or.inl ⟨by rfl, ?_⟩) (by assumption) ?_
        rotate_left
        · (intro w hSw; (try dsimp only at hSw); go_simp) <;> with_reducible rfl
        try simp only [Act.put, List.setIfInBounds_toArray, List.set_cons_zero, List.set_cons_succ]
        refine wpAnyH_take (i := 8) (oi := { dst := some 99, op := Op.indexAddr 31 (Operand.tmp 97) (Operand.tmp 98), type := 0, pos := "equal.go:79", after := #[{ on := 6, ground := Ground.data }, { on := 7, ground := Ground.data }], guard := none }) (v := ?_) rfl (by kernel_rfl) (by kernel_rfl) (by kernel_rfl) (fun _ _ _ h => h) (Or.inl ⟨by rfl, ?_⟩) (by assumption) ?_
        rotate_left
        · (intro w hSw; (try dsimp only at hSw); go_simp) <;> with_reducible rfl
        try simp only [Act.put, List.setIfInBounds_toArray, List.set_cons_zero, List.set_cons_succ]
        refine wpAnyH_take (i := 9) (oi := { dst := some 100, op := Op.load 33 (Operand.tmp 99), type := 33, pos := "equal.go:79", after := #[{ on := 8, ground := Ground.data }], guard := none }) (v := .agg (oc' ⟨k, hlt⟩).toArray) rfl (by kernel_rfl) (by kernel_rfl) (by kernel_rfl) (fun _ _ _ h => h) (yieldsIf_load_mid rfl 33 _ rfl b_y (ofy + k * 11) rfl (oc' ⟨k, hlt⟩) _ (fun _ h => h.2.2.2) Tryz.underlying33 rfl qy11) (by assumption) ?_
        try simp only [Act.put, List.setIfInBounds_toArray, List.set_cons_zero, List.set_cons_succ]
        refine wpAnyH_ready (rs := [10]) (by kernel_rfl) (by simp) ?_
        refine AllReadyH.cons (o := { dst := some 101, op := Op.call { callee := Callee.value (Operand.func 21), args := #[Operand.tmp 95, Operand.tmp 100], argTypes := #[33, 33] }, type := 4, pos := "equal.go:79", after := #[{ on := 4, ground := Ground.data }, { on := 9, ground := Ground.data }], guard := none }) rfl (fun K hK => ?_) AllReadyH.nil
        go_simp
        refine (HI.out ⟨k, hlt⟩ (ops' ⟨k, hlt⟩) _ _ _ (HS.out _ (below_drewN HWR.out 1) ⟨k, hlt⟩).1 (HS.out _ (below_drewN HWR.out 1) ⟨k, hlt⟩).2).mono ?_
        rintro _ w5 ⟨eb, rfl, heb, b5⟩
        have HB5 : Hid (Below wr.heap.size wr w5) := (below_drewN (Below.refl wr.heap.size wr) 1).trans b5
        clear b5
        refine hK.out _ _ (HSS.out _ HB5.out) (fun hHeld => ?_)
        clear hK K
        refine wpAnyH_take (i := 11) (oi := { dst := some 102, op := Op.unOp UnOp.not 4 (Operand.tmp 101), type := 4, pos := "equal.go:79", after := #[{ on := 10, ground := Ground.data }], guard := none }) (v := ?_) rfl (by kernel_rfl) (by kernel_rfl) (by kernel_rfl) (fun _ _ _ h => h) (Or.inl ⟨by rfl, ?_⟩) (by assumption) ?_
        rotate_left
        · (intro w hSw; (try dsimp only at hSw); go_simp) <;> with_reducible rfl
        try simp only [Act.put, List.setIfInBounds_toArray, List.set_cons_zero, List.set_cons_succ]
        refine wpAnyH_done (by kernel_rfl) ?_ _
        clear hHeld
        have HN : Hid (Below V.heap.size V w5) := HB.out.trans (HB5.out.mono HB.out.size)
        cases eb
        · clear heb
          go_wp2_with fail
          go_ret
          exact ⟨false, rfl, (fun h => by cases h), HV.out.trans (HN.out.mono HV.out.size)⟩
        · have HEQ2 : Hid (∀ i : Fin n, i.1 < k + 1 → ops i = ops' i) := fun i hi => by
            by_cases e : i.1 < k
            · exact HEQ.out i e
            · obtain rfl : i = ⟨k, hlt⟩ := Fin.ext (show i.1 = k by omega)
              exact heb rfl
          clear heb HB5 HB HEQ HSS
          go_wp2_with fail
          go_roundw
          case rel => exact ⟨k + 1, by omega, by go_num, HN, HEQ2⟩
          case measure => simp [intOf]; omega
      · obtain rfl : k = n := by omega
        have HR : Hid (Rq.mk ⟨kind, path, data, acl, ver, eph, seq, ses, tmo, who⟩ k ops = Rq.mk ⟨kind, path, data', acl', ver, eph, seq, ses, tmo, who'⟩ k ops') := by
          have h1 := Hd1.out
          have h2 := Hd2.out
          have h3 := Hd3.out
          have h4 : ops = ops' := funext fun i => HEQ.out i i.2
          show Rq.mk ⟨kind, path, data, acl, ver, eph, seq, ses, tmo, who⟩ k ops = Rq.mk ⟨kind, path, data', acl', ver, eph, seq, ses, tmo, who'⟩ k ops'
          rw [h1, h2, h3, h4]
        have HBF : Hid (Below w.heap.size w wr) := HV.out.trans (HB.out.mono HV.out.size)
        clear HEQ HB HF
        go_wp2_with fail
        go_ret
        exact ⟨true, rfl, (fun _ => HR.out), HBF.out⟩

theorem eqOrV (s b m s' b' m' : Int) (w : World) : (binOp .eql 27 (.agg #[.int .i8 s, .int .u32 b, .int .i64 m]) (.agg #[.int .i8 s', .int .u32 b', .int .i64 m'])).run Tryz.prog w = .ok (.bool (decide (s = s' ∧ b = b' ∧ m = m'))) w := by
  have hu : Tryz.prog.underlying 27 = some (.struct (Tryz.prog.fieldsOf 27)) := by kernel_rfl
  have hp : Tryz.prog.stoodInHeld 27 = false := by kernel_rfl
  have u3 := Tryz.underlying22
  have a3 := Tryz.isAgg22
  have z3 := Tryz.sizeOf22
  have u4 := Tryz.underlying25
  have a4 := Tryz.isAgg25
  have z4 := Tryz.sizeOf25
  have u5 := Tryz.underlying2
  have a5 := Tryz.isAgg2
  have z5 := Tryz.sizeOf2
  rw [run_eql_struct, show (10000 : Nat) = 9999 + 1 from rfl, run_equalIn_agg w 9999 _ _ _ hu hp]
  simp only [Program.fieldsOf, Tryz.underlying27]
  clear hu hp
  go_simp
  by_cases h1 : s = s' <;> by_cases h2 : b = b' <;> by_cases h3 : m = m' <;> simp [h1, h2, h3]

set_option maxHeartbeats 2000000 in
theorem eqTxn_sound (t t' : TxD) (cs ds : List Value) (w : World) (hcs : SeesTx w cs t) (hds : SeesTx w ds t') :
    Calls Tryz.prog 9 #[.agg cs.toArray, .agg ds.toArray] w fun e w' => ∃ b : Bool, e = .returned (.bool b) ∧ (b = true → t = t') ∧ Below w.heap.size w w' := by
  obtain ⟨rc, rfl, hr⟩ := hcs
  obtain ⟨rd, rfl, hr'⟩ := hds
  have HX : Hid (∀ W : World, Below w.heap.size w W → Calls Tryz.prog 21 #[.agg rc.toArray, .agg rd.toArray] W fun e w' => ∃ b : Bool, e = .returned (.bool b) ∧ (b = true → t.rq = t'.rq) ∧ Below W.heap.size W w') := fun W hW =>
    eqRequest_sound t.rq t'.rq rc rd W (hr.later hW (Nat.le_refl _)) (hr'.later hW (Nat.le_refl _))
  obtain ⟨ep, tn, srv, boot, num, rq⟩ := t
  obtain ⟨ep', tn', srv', boot', num', rq'⟩ := t'
  obtain ⟨q0, q1, d0, d1, d2, a0, a1, a2, q4, q5, q6, q7, q8, e0, e1, e2, o0, o1, o2, rfl⟩ := rq_forms hr
  obtain ⟨p0, p1, c0, c1, c2, b0, b1, b2, p4, p5, p6, p7, p8, f0, f1, f2, n0, n1, n2, rfl⟩ := rq_forms hr'
  have hB := two_alloc w
  have hg1 : Tryz.prog.eqGuardType Tryz.prog.depth 24 = false := by kernel_rfl
  have hg2 : Tryz.prog.eqGuardType Tryz.prog.depth 27 = false := by kernel_rfl
  clear hr hr'
  simp only [txHead, List.cons_append, List.nil_append] at HX ⊢
  by_cases h1 : ep = ep' ∧ tn = tn'
  case neg =>
    have hq : ∀ w, (binOp .eql 24 (.agg #[.int .u32 ep, .int .u32 tn]) (.agg #[.int .u32 ep', .int .u32 tn'])).run Tryz.prog w = .ok (.bool false) w := fun w => by rw [eqZx, decide_eq_false h1]
    clear h1
    go_enter Tryz.func9, Tryz.ntmps9
    go_wp2_with fail
    go_ret
    exact ⟨false, rfl, (fun h => by cases h), hB _ _⟩
  have hq : ∀ w, (binOp .eql 24 (.agg #[.int .u32 ep, .int .u32 tn]) (.agg #[.int .u32 ep', .int .u32 tn'])).run Tryz.prog w = .ok (.bool true) w := fun w => by rw [eqZx, decide_eq_true h1]
  have Hh1 : Hid _ := h1
  clear h1
  by_cases h2 : srv = srv' ∧ boot = boot' ∧ num = num'
  case neg =>
    have hq2 : ∀ w, (binOp .eql 27 (.agg #[.int .i8 srv, .int .u32 boot, .int .i64 num]) (.agg #[.int .i8 srv', .int .u32 boot', .int .i64 num'])).run Tryz.prog w = .ok (.bool false) w := fun w => by rw [eqOrV, decide_eq_false h2]
    clear h2
    go_enter Tryz.func9, Tryz.ntmps9
    go_wp2_with fail
    go_ret
    exact ⟨false, rfl, (fun h => by cases h), hB _ _⟩
  have hq2 : ∀ w, (binOp .eql 27 (.agg #[.int .i8 srv, .int .u32 boot, .int .i64 num]) (.agg #[.int .i8 srv', .int .u32 boot', .int .i64 num'])).run Tryz.prog w = .ok (.bool true) w := fun w => by rw [eqOrV, decide_eq_true h2]
  have Hh2 : Hid _ := h2
  clear h2
  go_enter Tryz.func9, Tryz.ntmps9
  go_wp2_with fail
  refine (HX.out _ (hB _ _)).mono ?_
  rintro _ w1 ⟨b, rfl, hb, bb⟩
  have HB : Hid (Below w.heap.size w w1 ∧ (b = true → rq = rq')) := ⟨(hB _ _).trans (bb.mono (hB _ _).size), hb⟩
  clear hb bb hB HX
  go_wp2_with fail
  go_ret
  refine ⟨b, rfl, fun h => ?_, HB.out.1⟩
  obtain ⟨rfl, rfl⟩ := Hh1.out
  obtain ⟨rfl, rfl, rfl⟩ := Hh2.out
  rw [HB.out.2 h]

end Go.Proofs.YtoeialngbbfoeaaGreatDoor
