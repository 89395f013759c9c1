/- txn.Same of a transaction held against none. -/
import Derived.Test.YtgjjcmhlmdfccaaGreatDoorPkGJ
namespace Go.Proofs.YtgjjcmhlmdfccaaGreatDoor
open Go.RowKit
set_option maxRecDepth 8000

theorem rqN_of {f : RqF} {n : Nat} {ops : Fin n → Rq} (h1 : f.kind = 0) (h2 : f.path.toList = []) (h3 : f.data = []) (h4 : f.acl = []) (h5 : f.ver = 0) (h6 : f.eph = false) (h7 : f.seq = false) (h8 : f.ses = 0) (h9 : f.tmo = 0) (h10 : f.who = []) (h11 : n = 0) : Rq.mk f n ops = rqN := by
  obtain ⟨kind, path, data, acl, ver, eph, seq, ses, tmo, who⟩ := f
  simp only at h1 h2 h3 h4 h5 h6 h7 h8 h9 h10
  have h2' : path = ⟨#[]⟩ := by
    rw [ByteArray.toList_eq] at h2
    obtain ⟨d⟩ := path
    congr 1
    exact Array.toList_eq_nil_iff.1 h2
  subst h1 h2' h3 h4 h5 h6 h7 h8 h9 h10 h11
  unfold rqN
  congr 1
  funext i
  exact i.elim0

theorem sameRequest0 (r : Rq) (cs : List Value) (w : World) (h : SeesRq w cs r) (hne : r ≠ rqN) :
    Calls Tryz.prog 53 #[.agg cs.toArray, .agg zRq] w fun e w' => e = .returned (.bool false) ∧ Below w.heap.size w w' := by
  cases r with
  | mk f n ops =>
  obtain ⟨dv, av, wv, ov, oc, rfl, hd, ha, hw, ho, hs⟩ := rq_inv h
  have HD : ∀ W : World, Below w.heap.size w W → Calls Tryz.prog 109 #[dv, .slice none 0 0] W fun e w' => e = .returned (.bool (decide (f.data = []))) ∧ Below W.heap.size W w' := fun W hW => by
    by_cases e : f.data = []
    · rw [decide_eq_true e]
      rw [e] at hd
      exact (bytesEqual_same dv (.slice none 0 0) [] W (hd.below hW (Nat.le_refl _)) (sees_nil W)).mono fun _ _ ⟨a, b⟩ => ⟨a, by rw [b]; exact Below.refl _ _⟩
    · rw [decide_eq_false e]
      refine (bytesEqual0 dv f.data W (hd.below hW (Nat.le_refl _))).mono ?_
      rintro _ w' ⟨b, rfl, hb, rfl⟩
      cases b with
      | true => exact absurd (hb rfl) e
      | false => exact ⟨rfl, Below.refl _ _⟩
  have HA : ∀ W : World, Below w.heap.size w W → Calls Tryz.prog 110 #[av, .slice none 0 0] W fun e w' => e = .returned (.bool (decide (f.acl.length = 0))) ∧ Below W.heap.size W w' := fun W hW => by
    by_cases e : f.acl = []
    · rw [decide_eq_true (by rw [e]; rfl)]
      rw [e] at ha
      exact (slEqEntry_same av (.slice none 0 0) [] W (ha.below hW (Nat.le_refl _)) (SeesR.nil W 3)).mono fun _ _ ⟨a, b⟩ => ⟨a, below_of_drewN b⟩
    · rw [decide_eq_false (fun h => e (List.eq_nil_of_length_eq_zero h))]
      refine (slEqEntry0 av f.acl W (ha.below hW (Nat.le_refl _))).mono ?_
      rintro _ w' ⟨b, rfl, hb, hl⟩
      cases b with
      | true => exact absurd (hb rfl) e
      | false => exact ⟨rfl, hl⟩
  have HW : ∀ W : World, Below w.heap.size w W → Calls Tryz.prog 111 #[wv, .slice none 0 0] W fun e w' => e = .returned (.bool (decide (f.who.length = 0))) ∧ Below W.heap.size W w' := fun W hW => by
    by_cases e : f.who = []
    · rw [decide_eq_true (by rw [e]; rfl)]
      rw [e] at hw
      exact (slEqId_same wv (.slice none 0 0) [] W (hw.below hW (Nat.le_refl _)) (SeesR.nil W 2)).mono fun _ _ ⟨a, b⟩ => ⟨a, below_of_drewN b⟩
    · rw [decide_eq_false (fun h => e (List.eq_nil_of_length_eq_zero h))]
      refine (slEqId0 wv f.who W (hw.below hW (Nat.le_refl _))).mono ?_
      rintro _ w' ⟨b, rfl, hb, hl⟩
      cases b with
      | true => exact absurd (hb rfl) e
      | false => exact ⟨rfl, hl⟩
  have HO : n ≠ 0 → ∀ W : World, Below w.heap.size w W → Calls Tryz.prog 112 #[ov, .slice none 0 0, .func (.func 53) #[] #[]] W fun e w' => e = .returned (.bool false) ∧ Below W.heap.size W w' := fun hn W hW => by
    refine (eqFunc0 n oc ov W (ho.below hW (Nat.le_refl _))).mono ?_
    rintro _ w' ⟨b, rfl, hb, hl⟩
    cases b with
    | true => exact absurd (hb rfl) hn
    | false => exact ⟨rfl, hl⟩
  obtain ⟨dx0, dx1, dx2, rfl⟩ := sees_form hd
  obtain ⟨ax0, ax1, ax2, rfl⟩ := seesR_form ha
  obtain ⟨wx0, wx1, wx2, rfl⟩ := seesR_form hw
  obtain ⟨ox0, ox1, ox2, rfl⟩ := seesR_form ho
  clear hd ha hw ho hs h
  by_cases h1 : f.kind = 0
  rotate_left
  · exact s0_0 f.kind f.path dx0 dx1 dx2 ax0 ax1 ax2 f.ver f.eph f.seq f.ses f.tmo wx0 wx1 wx2 ox0 ox1 ox2 w (by simp [h1])
  by_cases h2 : f.path.toList = []
  rotate_left
  · have := s0_1 f.path dx0 dx1 dx2 ax0 ax1 ax2 f.ver f.eph f.seq f.ses f.tmo wx0 wx1 wx2 ox0 ox1 ox2 w (by simpa using h2)
    rw [← h1] at this
    exact this
  have h2' : f.path = ⟨#[]⟩ := by
    rw [ByteArray.toList_eq] at h2
    obtain ⟨⟨d⟩, e⟩ : ∃ p : ByteArray, p = f.path := ⟨_, rfl⟩
    rw [← e] at h2 ⊢
    congr 1
    exact Array.toList_eq_nil_iff.1 h2
  by_cases h3 : f.data = []
  rotate_left
  · rw [decide_eq_false h3] at HD
    have := s0_2 dx0 dx1 dx2 ax0 ax1 ax2 f.ver f.eph f.seq f.ses f.tmo wx0 wx1 wx2 ox0 ox1 ox2 w HD
    unfold rqCells
    rw [h1, h2']
    exact this
  rw [decide_eq_true h3] at HD
  by_cases h4 : f.acl = []
  rotate_left
  · rw [decide_eq_false (fun h => h4 (List.eq_nil_of_length_eq_zero h))] at HA
    have := s0_3 dx0 dx1 dx2 ax0 ax1 ax2 f.ver f.eph f.seq f.ses f.tmo wx0 wx1 wx2 ox0 ox1 ox2 w HD HA
    unfold rqCells
    rw [h1, h2']
    exact this
  rw [decide_eq_true (by rw [h4]; rfl)] at HA
  by_cases h5 : f.ver = 0
  rotate_left
  · have := s0_4 dx0 dx1 dx2 ax0 ax1 ax2 f.ver f.eph f.seq f.ses f.tmo wx0 wx1 wx2 ox0 ox1 ox2 w HD HA (by simp [h5])
    unfold rqCells
    rw [h1, h2']
    exact this
  cases h6 : f.eph
  rotate_left
  · have := s0_5 dx0 dx1 dx2 ax0 ax1 ax2 f.seq f.ses f.tmo wx0 wx1 wx2 ox0 ox1 ox2 w HD HA
    unfold rqCells
    rw [h1, h2', h5, h6]
    exact this
  cases h7 : f.seq
  rotate_left
  · have := s0_6 dx0 dx1 dx2 ax0 ax1 ax2 f.ses f.tmo wx0 wx1 wx2 ox0 ox1 ox2 w HD HA
    unfold rqCells
    rw [h1, h2', h5, h6, h7]
    exact this
  by_cases h8 : f.ses = 0
  rotate_left
  · have := s0_7 dx0 dx1 dx2 ax0 ax1 ax2 f.ses f.tmo wx0 wx1 wx2 ox0 ox1 ox2 w HD HA (by simp [h8])
    unfold rqCells
    rw [h1, h2', h5, h6, h7]
    exact this
  by_cases h9 : f.tmo = 0
  rotate_left
  · have := s0_8 dx0 dx1 dx2 ax0 ax1 ax2 f.tmo wx0 wx1 wx2 ox0 ox1 ox2 w HD HA (by simp [h9])
    unfold rqCells
    rw [h1, h2', h5, h6, h7, h8]
    exact this
  by_cases h10 : f.who = []
  rotate_left
  · rw [decide_eq_false (fun h => h10 (List.eq_nil_of_length_eq_zero h))] at HW
    have := s0_9 dx0 dx1 dx2 ax0 ax1 ax2 wx0 wx1 wx2 ox0 ox1 ox2 w HD HA HW
    unfold rqCells
    rw [h1, h2', h5, h6, h7, h8, h9]
    exact this
  rw [decide_eq_true (by rw [h10]; rfl)] at HW
  by_cases h11 : n = 0
  · exact absurd (rqN_of h1 h2 h3 h4 h5 h6 h7 h8 h9 h10 h11) hne
  · have := s0_10 dx0 dx1 dx2 ax0 ax1 ax2 wx0 wx1 wx2 ox0 ox1 ox2 w HD HA HW (HO h11)
    unfold rqCells
    rw [h1, h2', h5, h6, h7, h8, h9]
    exact this

theorem eqOrZ (s b m : Int) (w : World) : (binOp .eql 29 (.agg #[.int .i8 s, .int .u32 b, .int .i64 m]) (.agg #[.int .i8 0, .int .u32 0, .int .i64 0])).run Tryz.prog w = .ok (.bool (decide (s = 0 ∧ b = 0 ∧ m = 0))) w := by
  have hu : Tryz.prog.underlying 29 = some (.struct (Tryz.prog.fieldsOf 29)) := by kernel_rfl
  have hp : Tryz.prog.stoodInHeld 29 = false := by kernel_rfl
  have u3 := Tryz.underlying23
  have a3 := Tryz.isAgg23
  have z3 := Tryz.sizeOf23
  have u4 := Tryz.underlying22
  have a4 := Tryz.isAgg22
  have z4 := Tryz.sizeOf22
  have u5 := Tryz.underlying2
  have a5 := Tryz.isAgg2
  have z5 := Tryz.sizeOf2
  rw [run_eql_struct, show (10000 : Nat) = 9999 + 1 from rfl, run_equalIn_agg w 9999 _ _ _ hu hp]
  simp only [Program.fieldsOf, Tryz.underlying29]
  clear hu hp
  go_simp
  by_cases h1 : s = 0 <;> by_cases h2 : b = 0 <;> by_cases h3 : m = 0 <;> simp [h1, h2, h3]

set_option maxHeartbeats 2000000 in
theorem same0 (cs : List Value) (t : TxD) (z : Bool) (hz : z = true ↔ t = txN) (w : World) (hcs : SeesTx w cs t) :
    Calls Tryz.prog 39 #[.agg cs.toArray, .agg zTx] w fun r w' => r = .returned (.bool z) ∧ Below w.heap.size w w' := by
  cases z with
  | true =>
    obtain rfl := hz.1 rfl
    exact same_same cs zTx.toList txN w hcs (sees_txN w)
  | false =>
  have hne : t ≠ txN := fun h => by have := hz.2 h; cases this
  clear hz
  obtain ⟨rc, rfl, hr⟩ := hcs
  obtain ⟨e, n, sv, bt, nm, rq⟩ := t
  have hg : Tryz.prog.eqGuardType Tryz.prog.depth 27 = false := by kernel_rfl
  have hg' : Tryz.prog.eqGuardType Tryz.prog.depth 29 = false := by kernel_rfl
  have hq := eqZx e n 0 0
  have hq' := eqOrZ sv bt nm
  have HB := two_alloc w
  by_cases h1 : e = 0 ∧ n = 0
  · rw [decide_eq_true h1] at hq
    by_cases h2 : sv = 0 ∧ bt = 0 ∧ nm = 0
    · rw [decide_eq_true h2] at hq'
      have hrq : rq ≠ rqN := fun h => hne (by obtain ⟨rfl, rfl⟩ := h1; obtain ⟨rfl, rfl, rfl⟩ := h2; rw [h]; rfl)
      have HX : Hid (∀ W : World, Below w.heap.size w W → Calls Tryz.prog 53 #[.agg rc.toArray, .agg zRq] W fun r w' => r = .returned (.bool false) ∧ Below W.heap.size W w') := fun W hW => sameRequest0 rq rc W (hr.later hW (Nat.le_refl _)) hrq
      obtain ⟨kx, sx, dx0, dx1, dx2, ax0, ax1, ax2, vx, px, qx, zx, tx, wx0, wx1, wx2, ox0, ox1, ox2, rfl⟩ := rq_forms hr
      simp only [txHead, List.cons_append, List.nil_append]
      clear hr hne h1 h2 hrq
      go_enter Tryz.func39, Tryz.ntmps39
      go_wp2_with fail
      refine (HX.out _ (HB _ _)).mono ?_
      rintro r w1 ⟨rfl, b1⟩
      have HB1 : Hid (Below w.heap.size w w1) := (HB _ _).trans (b1.mono (by simp; omega))
      clear b1 HB
      go_wp2
      go_ret
      exact ⟨rfl, HB1.out⟩
    · rw [decide_eq_false h2] at hq'
      obtain ⟨kx, sx, dx0, dx1, dx2, ax0, ax1, ax2, vx, px, qx, zx, tx, wx0, wx1, wx2, ox0, ox1, ox2, rfl⟩ := rq_forms hr
      simp only [txHead, List.cons_append, List.nil_append]
      clear hr hne h1 h2
      go_enter Tryz.func39, Tryz.ntmps39
      go_wp2_with fail
      go_ret
      exact ⟨rfl, HB _ _⟩
  · rw [decide_eq_false h1] at hq
    obtain ⟨kx, sx, dx0, dx1, dx2, ax0, ax1, ax2, vx, px, qx, zx, tx, wx0, wx1, wx2, ox0, ox1, ox2, rfl⟩ := rq_forms hr
    simp only [txHead, List.cons_append, List.nil_append]
    clear hr hne h1
    go_enter Tryz.func39, Tryz.ntmps39
    go_wp2_with fail
    go_ret
    exact ⟨rfl, HB _ _⟩
end Go.Proofs.YtgjjcmhlmdfccaaGreatDoor
