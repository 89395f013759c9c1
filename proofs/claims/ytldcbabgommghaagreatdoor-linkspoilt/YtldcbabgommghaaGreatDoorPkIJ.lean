/- txn.Same of a transaction held against none. -/
import Derived.Test.YtldcbabgommghaaGreatDoorPkGJ
namespace Go.Proofs.YtldcbabgommghaaGreatDoor
open Go.RowKit
set_option maxRecDepth 8000

theorem rqN_of {f : RqF} {n : Nat} {ops : Fin n → Rq} (h1 : f.kind = 0) (h2 : f.path.toList = []) (h3 : f.data = []) (h4 : f.acl = []) (h5 : f.ver = 0) (h6 : f.eph = false) (h7 : f.seq = false) (h8 : f.ses = 0) (h9 : f.tmo = 0) (h10 : f.who = []) (h11 : n = 0) : Rq.mk f n ops = rqN := by
  obtain ⟨kind, path, data, acl, ver, eph, seq, ses, tmo, who⟩ := f
  simp only at h1 h2 h3 h4 h5 h6 h7 h8 h9 h10
  have h2' : path = ⟨#[]⟩ := by
    rw [ByteArray.toList_eq] at h2
    obtain ⟨d⟩ := path
    congr 1
    exact Array.toList_eq_nil_iff.1 h2
  subst h1 h2' h3 h4 h5 h6 h7 h8 h9 h10 h11
  unfold rqN
  congr 1
  funext i
  exact i.elim0

theorem sameRequest0 (r : Rq) (cs : List Value) (w : World) (h : SeesRq w cs r) (hne : r ≠ rqN) :
    Calls Tryz.prog 73 #[.agg cs.toArray, .agg zRq] w fun e w' => e = .returned (.bool false) ∧ Below w.heap.size w w' := by
  cases r with
  | mk f n ops =>
  obtain ⟨dv, av, wv, ov, oc, rfl, hd, ha, hw, ho, hs⟩ := rq_inv h
  have HD : ∀ W : World, Below w.heap.size w W → Calls Tryz.prog 121 #[dv, .slice none 0 0] W fun e w' => e = .returned (.bool (decide (f.data = []))) ∧ Below W.heap.size W w' := fun W hW => by
    by_cases e : f.data = []
    · rw [decide_eq_true e]
      rw [e] at hd
      exact (bytesEqual_same dv (.slice none 0 0) [] W (hd.below hW (Nat.le_refl _)) (sees_nil W)).mono fun _ _ ⟨a, b⟩ => ⟨a, by rw [b]; exact Below.refl _ _⟩
    · rw [decide_eq_false e]
      refine (bytesEqual0 dv f.data W (hd.below hW (Nat.le_refl _))).mono ?_
      rintro _ w' ⟨b, rfl, hb, rfl⟩
      cases b with
      | true => exact absurd (hb rfl) e
      | false => exact ⟨rfl, Below.refl _ _⟩
  have HA : ∀ W : World, Below w.heap.size w W → Calls Tryz.prog 122 #[av, .slice none 0 0] W fun e w' => e = .returned (.bool (decide (f.acl.length = 0))) ∧ Below W.heap.size W w' := fun W hW => by
    by_cases e : f.acl = []
    · rw [decide_eq_true (by rw [e]; rfl)]
      rw [e] at ha
      exact (slEqEntry_same av (.slice none 0 0) [] W (ha.below hW (Nat.le_refl _)) (SeesR.nil W 3)).mono fun _ _ ⟨a, b⟩ => ⟨a, below_of_drewN b⟩
    · rw [decide_eq_false (fun h => e (List.eq_nil_of_length_eq_zero h))]
      refine (slEqEntry0 av f.acl W (ha.below hW (Nat.le_refl _))).mono ?_
      rintro _ w' ⟨b, rfl, hb, hl⟩
      cases b with
      | true => exact absurd (hb rfl) e
      | false => exact ⟨rfl, hl⟩
  have HW : ∀ W : World, Below w.heap.size w W → Calls Tryz.prog 123 #[wv, .slice none 0 0] W fun e w' => e = .returned (.bool (decide (f.who.length = 0))) ∧ Below W.heap.size W w' := fun W hW => by
    by_cases e : f.who = []
    · rw [decide_eq_true (by rw [e]; rfl)]
      rw [e] at hw
      exact (slEqId_same wv (.slice none 0 0) [] W (hw.below hW (Nat.le_refl _)) (SeesR.nil W 2)).mono fun _ _ ⟨a, b⟩ => ⟨a, below_of_drewN b⟩
    · rw [decide_eq_false (fun h => e (List.eq_nil_of_length_eq_zero h))]
      refine (slEqId0 wv f.who W (hw.below hW (Nat.le_refl _))).mono ?_
      rintro _ w' ⟨b, rfl, hb, hl⟩
      cases b with
      | true => exact absurd (hb rfl) e
      | false => exact ⟨rfl, hl⟩
  have HO : n ≠ 0 → ∀ W : World, Below w.heap.size w W → Calls Tryz.prog 124 #[ov, .slice none 0 0, .func (.func 73) #[] #[]] W fun e w' => e = .returned (.bool false) ∧ Below W.heap.size W w' := fun hn W hW => by
    refine (eqFunc0 n oc ov W (ho.below hW (Nat.le_refl _))).mono ?_
    rintro _ w' ⟨b, rfl, hb, hl⟩
    cases b with
    | true => exact absurd (hb rfl) hn
    | false => exact ⟨rfl, hl⟩
  obtain ⟨dx0, dx1, dx2, rfl⟩ := sees_form hd
  obtain ⟨ax0, ax1, ax2, rfl⟩ := seesR_form ha
  obtain ⟨wx0, wx1, wx2, rfl⟩ := seesR_form hw
  obtain ⟨ox0, ox1, ox2, rfl⟩ := seesR_form ho
  clear hd ha hw ho hs h
  by_cases h1 : f.kind = 0
  rotate_left
  · exact s0_0 f.kind f.path dx0 dx1 dx2 ax0 ax1 ax2 f.ver f.eph f.seq f.ses f.tmo wx0 wx1 wx2 ox0 ox1 ox2 w (by simp [h1])
  by_cases h2 : f.path.toList = []
  rotate_left
  · have := s0_1 f.path dx0 dx1 dx2 ax0 ax1 ax2 f.ver f.eph f.seq f.ses f.tmo wx0 wx1 wx2 ox0 ox1 ox2 w (by simpa using h2)
    rw [← h1] at this
    exact this
  have h2' : f.path = ⟨#[]⟩ := by
    rw [ByteArray.toList_eq] at h2
    obtain ⟨⟨d⟩, e⟩ : ∃ p : ByteArray, p = f.path := ⟨_, rfl⟩
    rw [← e] at h2 ⊢
    congr 1
    exact Array.toList_eq_nil_iff.1 h2
  by_cases h3 : f.data = []
  rotate_left
  · rw [decide_eq_false h3] at HD
    have := s0_2 dx0 dx1 dx2 ax0 ax1 ax2 f.ver f.eph f.seq f.ses f.tmo wx0 wx1 wx2 ox0 ox1 ox2 w HD
    unfold rqCells
    rw [h1, h2']
    exact this
  rw [decide_eq_true h3] at HD
  by_cases h4 : f.acl = []
  rotate_left
  · rw [decide_eq_false (fun h => h4 (List.eq_nil_of_length_eq_zero h))] at HA
    have := s0_3 dx0 dx1 dx2 ax0 ax1 ax2 f.ver f.eph f.seq f.ses f.tmo wx0 wx1 wx2 ox0 ox1 ox2 w HD HA
    unfold rqCells
    rw [h1, h2']
    exact this
  rw [decide_eq_true (by rw [h4]; rfl)] at HA
  by_cases h5 : f.ver = 0
  rotate_left
  · have := s0_4 dx0 dx1 dx2 ax0 ax1 ax2 f.ver f.eph f.seq f.ses f.tmo wx0 wx1 wx2 ox0 ox1 ox2 w HD HA (by simp [h5])
    unfold rqCells
    rw [h1, h2']
    exact this
  cases h6 : f.eph
  rotate_left
  · have := s0_5 dx0 dx1 dx2 ax0 ax1 ax2 f.seq f.ses f.tmo wx0 wx1 wx2 ox0 ox1 ox2 w HD HA
    unfold rqCells
    rw [h1, h2', h5, h6]
    exact this
  cases h7 : f.seq
  rotate_left
  · have := s0_6 dx0 dx1 dx2 ax0 ax1 ax2 f.ses f.tmo wx0 wx1 wx2 ox0 ox1 ox2 w HD HA
    unfold rqCells
    rw [h1, h2', h5, h6, h7]
    exact this
  by_cases h8 : f.ses = 0
  rotate_left
  · have := s0_7 dx0 dx1 dx2 ax0 ax1 ax2 f.ses f.tmo wx0 wx1 wx2 ox0 ox1 ox2 w HD HA (by simp [h8])
    unfold rqCells
    rw [h1, h2', h5, h6, h7]
    exact this
  by_cases h9 : f.tmo = 0
  rotate_left
  · have := s0_8 dx0 dx1 dx2 ax0 ax1 ax2 f.tmo wx0 wx1 wx2 ox0 ox1 ox2 w HD HA (by simp [h9])
    unfold rqCells
    rw [h1, h2', h5, h6, h7, h8]
    exact this
  by_cases h10 : f.who = []
  rotate_left
  · rw [decide_eq_false (fun h => h10 (List.eq_nil_of_length_eq_zero h))] at HW
    have := s0_9 dx0 dx1 dx2 ax0 ax1 ax2 wx0 wx1 wx2 ox0 ox1 ox2 w HD HA HW
    unfold rqCells
    rw [h1, h2', h5, h6, h7, h8, h9]
    exact this
  rw [decide_eq_true (by rw [h10]; rfl)] at HW
  by_cases h11 : n = 0
  · exact absurd (rqN_of h1 h2 h3 h4 h5 h6 h7 h8 h9 h10 h11) hne
  · have := s0_10 dx0 dx1 dx2 ax0 ax1 ax2 wx0 wx1 wx2 ox0 ox1 ox2 w HD HA HW (HO h11)
    unfold rqCells
    rw [h1, h2', h5, h6, h7, h8, h9]
    exact this

theorem eqOrZ (s b m : Int) (w : World) : (binOp .eql 29 (.agg #[.int .i8 s, .int .u32 b, .int .i64 m]) (.agg #[.int .i8 0, .int .u32 0, .int .i64 0])).run Tryz.prog w = .ok (.bool (decide (s = 0 ∧ b = 0 ∧ m = 0))) w := by
  have hu : Tryz.prog.underlying 29 = some (.struct (Tryz.prog.fieldsOf 29)) := by kernel_rfl
  have hp : Tryz.prog.stoodInHeld 29 = false := by kernel_rfl
  have u3 := Tryz.underlying23
  have a3 := Tryz.isAgg23
  have z3 := Tryz.sizeOf23
  have u4 := Tryz.underlying22
  have a4 := Tryz.isAgg22
  have z4 := Tryz.sizeOf22
  have u5 := Tryz.underlying2
  have a5 := Tryz.isAgg2
  have z5 := Tryz.sizeOf2
  rw [run_eql_struct, show (10000 : Nat) = 9999 + 1 from rfl, run_equalIn_agg w 9999 _ _ _ hu hp]
  simp only [Program.fieldsOf, Tryz.underlying29]
  clear hu hp
  go_simp
  by_cases h1 : s = 0 <;> by_cases h2 : b = 0 <;> by_cases h3 : m = 0 <;> simp [h1, h2, h3]

set_option maxHeartbeats 2000000 in
theorem same0 (cs : List Value) (t : TxD) (z : Bool) (hz : z = true ↔ t = txN) (w : World) (hcs : SeesTx w cs t) :
    Calls Tryz.prog 64 #[.agg cs.toArray, .agg zTx] w fun r w' => r = .returned (.bool z) ∧ Below w.heap.size w w' := by
  cases z with
  | true =>
    obtain rfl := hz.1 rfl
    exact same_same cs zTx.toList txN w hcs (sees_txN w)
  | false =>
  have hne : t ≠ txN := fun h => by have := hz.2 h; cases this
  clear hz
  obtain ⟨rc, rfl, hr⟩ := hcs
  obtain ⟨e, n, sv, bt, nm, rq⟩ := t
  have hg : Tryz.prog.eqGuardType Tryz.prog.depth 27 = false := by kernel_rfl
  have hg' : Tryz.prog.eqGuardType Tryz.prog.depth 29 = false := by kernel_rfl
  have hq := eqZx e n 0 0
  have hq' := eqOrZ sv bt nm
  have HB := two_alloc w
  by_cases h1 : e = 0 ∧ n = 0
  · rw [decide_eq_true h1] at hq
    by_cases h2 : sv = 0 ∧ bt = 0 ∧ nm = 0
    · rw [decide_eq_true h2] at hq'
      have hrq : rq ≠ rqN := fun h => hne (by obtain ⟨rfl, rfl⟩ := h1; obtain ⟨rfl, rfl, rfl⟩ := h2; rw [h]; rfl)
      have HX : Hid (∀ W : World, Below w.heap.size w W → Calls Tryz.prog 73 #[.agg rc.toArray, .agg zRq] W fun r w' => r = .returned (.bool false) ∧ Below W.heap.size W w') := fun W hW => sameRequest0 rq rc W (hr.later hW (Nat.le_refl _)) hrq
      obtain ⟨kx, sx, dx0, dx1, dx2, ax0, ax1, ax2, vx, px, qx, zx, tx, wx0, wx1, wx2, ox0, ox1, ox2, rfl⟩ := rq_forms hr
      simp only [txHead, List.cons_append, List.nil_append]
      clear hr hne h1 h2 hrq
      go_enter Tryz.func64, Tryz.ntmps64
      go_wp2_with fail
      refine (HX.out _ (HB _ _)).mono ?_
      rintro r w1 ⟨rfl, b1⟩
      have HB1 : Hid (Below w.heap.size w w1) := (HB _ _).trans (b1.mono (by simp; omega))
      clear b1 HB
      go_wp2
      go_ret
      exact ⟨rfl, HB1.out⟩
    · rw [decide_eq_false h2] at hq'
      obtain ⟨kx, sx, dx0, dx1, dx2, ax0, ax1, ax2, vx, px, qx, zx, tx, wx0, wx1, wx2, ox0, ox1, ox2, rfl⟩ := rq_forms hr
      simp only [txHead, List.cons_append, List.nil_append]
      clear hr hne h1 h2
      go_enter Tryz.func64, Tryz.ntmps64
      go_wp2_with fail
      go_ret
      exact ⟨rfl, HB _ _⟩
  · rw [decide_eq_false h1] at hq
    obtain ⟨kx, sx, dx0, dx1, dx2, ax0, ax1, ax2, vx, px, qx, zx, tx, wx0, wx1, wx2, ox0, ox1, ox2, rfl⟩ := rq_forms hr
    simp only [txHead, List.cons_append, List.nil_append]
    clear hr hne h1
    go_enter Tryz.func64, Tryz.ntmps64
    go_wp2_with fail
    go_ret
    exact ⟨rfl, HB _ _⟩
end Go.Proofs.YtldcbabgommghaaGreatDoor

/- filled of package packet: what of a packet is not zero, as bits. -/
namespace Go.Proofs.YtldcbabgommghaaGreatDoor
open Go.RowKit
set_option maxRecDepth 8000

theorem neqCn (e n f m : Int) (w : World) : (binOp .neq 25 (.agg #[.int .u32 e, .int .u32 n]) (.agg #[.int .u32 f, .int .u32 m])).run Tryz.prog w = .ok (.bool (!decide (e = f ∧ n = m))) w := by
  have hu : Tryz.prog.underlying 25 = some (.struct (Tryz.prog.fieldsOf 25)) := by kernel_rfl
  have hp : Tryz.prog.stoodInHeld 25 = false := by kernel_rfl
  have u3 := Tryz.underlying23
  have a3 := Tryz.isAgg23
  have z3 := Tryz.sizeOf23
  rw [run_neq_struct, show (10000 : Nat) = 9999 + 1 from rfl, run_equalIn_agg w 9999 _ _ _ hu hp]
  simp only [Program.fieldsOf, Tryz.underlying25]
  go_simp
  by_cases h1 : e = f <;> by_cases h2 : n = m <;> simp [h1, h2]
theorem neqZxP (e n f m : Int) (w : World) : (binOp .neq 27 (.agg #[.int .u32 e, .int .u32 n]) (.agg #[.int .u32 f, .int .u32 m])).run Tryz.prog w = .ok (.bool (!decide (e = f ∧ n = m))) w := by
  have hu : Tryz.prog.underlying 27 = some (.struct (Tryz.prog.fieldsOf 27)) := by kernel_rfl
  have hp : Tryz.prog.stoodInHeld 27 = false := by kernel_rfl
  have u3 := Tryz.underlying23
  have a3 := Tryz.isAgg23
  have z3 := Tryz.sizeOf23
  rw [run_neq_struct, show (10000 : Nat) = 9999 + 1 from rfl, run_equalIn_agg w 9999 _ _ _ hu hp]
  simp only [Program.fieldsOf, Tryz.underlying27]
  go_simp
  by_cases h1 : e = f <;> by_cases h2 : n = m <;> simp [h1, h2]

/-- Bits, put together. -/
def fillM (c l p e u z v o f t b s : Bool) : Int :=
  bits .or .u16 (bits .or .u16 (bits .or .u16 (bits .or .u16 (bits .or .u16 (bits .or .u16 (bits .or .u16 (bits .or .u16 (bits .or .u16 (bits .or .u16 (bits .or .u16 (bz 1 c) (bz 2 l)) (bz 4 p)) (bz 8 e)) (bz 16 u)) (bz 32 z)) (bz 64 v)) (bz 128 o)) (bz 256 f)) (bz 512 t)) (bz 1024 b)) (bz 2048 s)
/-- What of a packet is not zero (tz: its transaction is none). -/
def fillP (p : PkD) (tz : Bool) : Int :=
  fillM (!decide (p.cb = 0 ∧ p.ct = 0)) (!decide (p.lb = 0 ∧ p.lt = 0)) (p.place != 0) (p.ep != 0) (p.cur != 0) (!decide (p.ze = 0 ∧ p.zn = 0)) (!decide (p.pe = 0 ∧ p.pn = 0)) p.cnt p.fin (!tz) (decide (0 < p.bys.length)) (p.ses != 0)

theorem PkAt.held {W : World} {g : Nat} {p : PkD} {tc : List Value} {bv : Value} (h : PkAt W g p tc bv) (hl : tc.length = 16) : W.cell? ⟨g, 1, none⟩ = some (.int .u32 p.cb) ∧ W.cell? ⟨g, 2, none⟩ = some (.int .u32 p.ct) ∧ W.cell? ⟨g, 3, none⟩ = some (.int .u32 p.lb) ∧ W.cell? ⟨g, 4, none⟩ = some (.int .u32 p.lt) ∧ W.cell? ⟨g, 5, none⟩ = some (.int .i64 p.place) ∧ W.cell? ⟨g, 6, none⟩ = some (.int .u32 p.ep) ∧ W.cell? ⟨g, 7, none⟩ = some (.int .u32 p.cur) ∧ W.cell? ⟨g, 8, none⟩ = some (.int .u32 p.ze) ∧ W.cell? ⟨g, 9, none⟩ = some (.int .u32 p.zn) ∧ W.cell? ⟨g, 10, none⟩ = some (.int .u32 p.pe) ∧ W.cell? ⟨g, 11, none⟩ = some (.int .u32 p.pn) ∧ W.cell? ⟨g, 12, none⟩ = some (.bool p.cnt) ∧ W.cell? ⟨g, 13, none⟩ = some (.bool p.fin) ∧ W.cell? ⟨g, 30, none⟩ = some (bv) ∧ W.cell? ⟨g, 31, none⟩ = some (.int .i64 p.ses) ∧ W.rangeAt g 14 tc :=
  ⟨pk_at h rfl, pk_at h rfl, pk_at h rfl, pk_at h rfl, pk_at h rfl, pk_at h rfl, pk_at h rfl, pk_at h rfl, pk_at h rfl, pk_at h rfl, pk_at h rfl, pk_at h rfl, pk_at h rfl, (h.tail hl).2.1, (h.tail hl).2.2, (h.tail hl).1⟩

set_option maxHeartbeats 4000000 in
theorem filledP_any (p : PkD) (tc : List Value) (bv : Value) (tz : Bool) (hz : tz = true ↔ p.tx = txN) (w : World) (hs : SeesPk w tc bv p) :
    Calls Tryz.prog 47 #[.agg (pkL p tc bv).toArray] w fun r w' => r = .returned (.int .u16 (fillP p tz)) ∧ Below w.heap.size w w' := by
  obtain ⟨W, HE, HW⟩ := pk_box p tc bv w
  obtain ⟨C, hC⟩ : ∃ C, C = fillP p tz := ⟨_, rfl⟩
  rw [← hC]
  have HC : Hid _ := hC
  clear hC
  have HS : Hid (SeesPk w tc bv p) := hs
  have hl16 := hs.tx.len
  have q16 : (Tryz.prog.info? 37).map (·.size) = some tc.length := by rw [hs.tx.len]; exact txSz
  obtain ⟨ao, cap, rfl⟩ : ∃ ao cap, bv = .slice ao p.bys.length cap := by obtain ⟨ao, cap, h, _⟩ := hs.bys; exact ⟨ao, cap, h⟩
  have hgt : Tryz.prog.eqGuardType Tryz.prog.depth 27 = false := by kernel_rfl
  have hgc : Tryz.prog.eqGuardType Tryz.prog.depth 25 = false := by kernel_rfl
  have n1 := neqCn p.cb p.ct 0 0
  have n2 := neqCn p.lb p.lt 0 0
  have n3 := neqZxP p.ze p.zn 0 0
  have n4 := neqZxP p.pe p.pn 0 0
  have HSM : Hid (∀ V, Below w.heap.size w V → Calls Tryz.prog 64 #[.agg tc.toArray, .agg zTx] V fun r w' => r = .returned (.bool tz) ∧ Below V.heap.size V w') := fun V hV => same0 tc p.tx tz hz V (hs.tx.below hV (Nat.le_refl _))
  obtain ⟨f1, hf1⟩ : ∃ f1, f1 = (!decide (p.cb = 0 ∧ p.ct = 0)) := ⟨_, rfl⟩
  obtain ⟨f2, hf2⟩ : ∃ f2, f2 = (!decide (p.lb = 0 ∧ p.lt = 0)) := ⟨_, rfl⟩
  obtain ⟨f3, hf3⟩ : ∃ f3, f3 = (!decide (p.ze = 0 ∧ p.zn = 0)) := ⟨_, rfl⟩
  obtain ⟨f4, hf4⟩ : ∃ f4, f4 = (!decide (p.pe = 0 ∧ p.pn = 0)) := ⟨_, rfl⟩
  rw [← hf1] at n1
  rw [← hf2] at n2
  rw [← hf3] at n3
  rw [← hf4] at n4
  have HF : Hid (f1 = (!decide (p.cb = 0 ∧ p.ct = 0)) ∧ f2 = (!decide (p.lb = 0 ∧ p.lt = 0)) ∧ f3 = (!decide (p.ze = 0 ∧ p.zn = 0)) ∧ f4 = (!decide (p.pe = 0 ∧ p.pn = 0))) := ⟨hf1, hf2, hf3, hf4⟩
  clear hf1 hf2 hf3 hf4 hs hz
  go_enter Tryz.func47, Tryz.ntmps47
  go_upto_region 1 with fail
  rw [← HE.out]
  clear HE
  have HD : Hid (Below w.heap.size w W.drew ∧ PkAt W.drew w.heap.size p tc (.slice ao p.bys.length cap)) := ⟨HW.out.1.trans ((below_drewN (Below.refl _ _) 1).mono HW.out.1.size), HW.out.2⟩
  refine wp_region_held_drew (S := (fun W => W.cell? ⟨w.heap.size, 1, none⟩ = some (.int .u32 p.cb) ∧ W.cell? ⟨w.heap.size, 2, none⟩ = some (.int .u32 p.ct) ∧ W.cell? ⟨w.heap.size, 3, none⟩ = some (.int .u32 p.lb) ∧ W.cell? ⟨w.heap.size, 4, none⟩ = some (.int .u32 p.lt) ∧ W.cell? ⟨w.heap.size, 5, none⟩ = some (.int .i64 p.place) ∧ W.cell? ⟨w.heap.size, 6, none⟩ = some (.int .u32 p.ep) ∧ W.cell? ⟨w.heap.size, 7, none⟩ = some (.int .u32 p.cur) ∧ W.cell? ⟨w.heap.size, 8, none⟩ = some (.int .u32 p.ze) ∧ W.cell? ⟨w.heap.size, 9, none⟩ = some (.int .u32 p.zn) ∧ W.cell? ⟨w.heap.size, 10, none⟩ = some (.int .u32 p.pe) ∧ W.cell? ⟨w.heap.size, 11, none⟩ = some (.int .u32 p.pn) ∧ W.cell? ⟨w.heap.size, 12, none⟩ = some (.bool p.cnt) ∧ W.cell? ⟨w.heap.size, 13, none⟩ = some (.bool p.fin) ∧ W.cell? ⟨w.heap.size, 30, none⟩ = some (.slice ao p.bys.length cap) ∧ W.cell? ⟨w.heap.size, 31, none⟩ = some (.int .i64 p.ses) ∧ W.rangeAt w.heap.size 14 tc)) (by kernel_rfl) ?_ (fun hHeld => ?_)
  · exact HD.out.2.held hl16
  refine tkV 0 (v := ?_) rfl (Or.inl ⟨by rfl, ?_⟩) ?_
  rotate_left
  · (intro w hSw; (try dsimp only at hSw); go_simp) <;> with_reducible rfl
  try simp only [Act.put, sA, sB, sC]
  refine tkV 1 (v := ?_) rfl (Or.inl ⟨by rfl, ?_⟩) ?_
  rotate_left
  · (intro w hSw; (try dsimp only at hSw); go_simp) <;> with_reducible rfl
  try simp only [Act.put, sA, sB, sC]
  refine tkV 2 (v := ?_) rfl (Or.inl ⟨by rfl, ?_⟩) ?_
  rotate_left
  · (intro w hSw; (try dsimp only at hSw); go_simp) <;> with_reducible rfl
  try simp only [Act.put, sA, sB, sC]
  refine tkV 3 (v := ?_) rfl (Or.inl ⟨by rfl, ?_⟩) ?_
  rotate_left
  · (intro w hSw; (try dsimp only at hSw); go_simp) <;> with_reducible rfl
  try simp only [Act.put, sA, sB, sC]
  refine tkV 5 (v := ?_) rfl (Or.inl ⟨by rfl, ?_⟩) ?_
  rotate_left
  · (intro w hSw; (try dsimp only at hSw); go_simp) <;> with_reducible rfl
  try simp only [Act.put, sA, sB, sC]
  refine tkV 6 (v := ?_) rfl (Or.inl ⟨by rfl, ?_⟩) ?_
  rotate_left
  · (intro w hSw; (try dsimp only at hSw); go_simp) <;> with_reducible rfl
  try simp only [Act.put, sA, sB, sC]
  refine tkV 7 (v := ?_) rfl (Or.inl ⟨by rfl, ?_⟩) ?_
  rotate_left
  · (intro w hSw; (try dsimp only at hSw); go_simp) <;> with_reducible rfl
  try simp only [Act.put, sA, sB, sC]
  refine tkV 8 (v := ?_) rfl (Or.inl ⟨by rfl, ?_⟩) ?_
  rotate_left
  · (intro w hSw; (try dsimp only at hSw); go_simp) <;> with_reducible rfl
  try simp only [Act.put, sA, sB, sC]
  refine tkV 11 (v := ?_) rfl (Or.inl ⟨by rfl, ?_⟩) ?_
  rotate_left
  · (intro w hSw; (try dsimp only at hSw); go_simp) <;> with_reducible rfl
  try simp only [Act.put, sA, sB, sC]
  refine tkV 12 (v := ?_) rfl (Or.inl ⟨by rfl, ?_⟩) ?_
  rotate_left
  · (intro w hSw; (try dsimp only at hSw); go_simp) <;> with_reducible rfl
  try simp only [Act.put, sA, sB, sC]
  refine tkV 13 (v := ?_) rfl (Or.inl ⟨by rfl, ?_⟩) ?_
  rotate_left
  · (intro w hSw; (try dsimp only at hSw); go_simp) <;> with_reducible rfl
  try simp only [Act.put, sA, sB, sC]
  refine tkV 16 (v := ?_) rfl (Or.inl ⟨by rfl, ?_⟩) ?_
  rotate_left
  · (intro w hSw; (try dsimp only at hSw); go_simp) <;> with_reducible rfl
  try simp only [Act.put, sA, sB, sC]
  refine tkV 17 (v := ?_) rfl (Or.inl ⟨by rfl, ?_⟩) ?_
  rotate_left
  · (intro w hSw; (try dsimp only at hSw); go_simp) <;> with_reducible rfl
  try simp only [Act.put, sA, sB, sC]
  refine tkV 18 (v := ?_) rfl (Or.inl ⟨by rfl, ?_⟩) ?_
  rotate_left
  · (intro w hSw; (try dsimp only at hSw); go_simp) <;> with_reducible rfl
  try simp only [Act.put, sA, sB, sC]
  refine tkV 21 (v := ?_) rfl (Or.inl ⟨by rfl, ?_⟩) ?_
  rotate_left
  · (intro w hSw; (try dsimp only at hSw); go_simp) <;> with_reducible rfl
  try simp only [Act.put, sA, sB, sC]
  refine tkV 22 (v := ?_) rfl (Or.inl ⟨by rfl, ?_⟩) ?_
  rotate_left
  · (intro w hSw; (try dsimp only at hSw); go_simp) <;> with_reducible rfl
  try simp only [Act.put, sA, sB, sC]
  refine tkV 23 (v := ?_) rfl (Or.inl ⟨by rfl, ?_⟩) ?_
  rotate_left
  · (intro w hSw; (try dsimp only at hSw); go_simp) <;> with_reducible rfl
  try simp only [Act.put, sA, sB, sC]
  refine tkV 26 (v := ?_) rfl (Or.inl ⟨by rfl, ?_⟩) ?_
  rotate_left
  · (intro w hSw; (try dsimp only at hSw); go_simp) <;> with_reducible rfl
  try simp only [Act.put, sA, sB, sC]
  refine tkV 27 (v := ?_) rfl (Or.inl ⟨by rfl, ?_⟩) ?_
  rotate_left
  · (intro w hSw; (try dsimp only at hSw); go_simp) <;> with_reducible rfl
  try simp only [Act.put, sA, sB, sC]
  refine tkV 28 (v := ?_) rfl (Or.inl ⟨by rfl, ?_⟩) ?_
  rotate_left
  · (intro w hSw; (try dsimp only at hSw); go_simp) <;> with_reducible rfl
  try simp only [Act.put, sA, sB, sC]
  refine tkV 29 (v := ?_) rfl (Or.inl ⟨by rfl, ?_⟩) ?_
  rotate_left
  · (intro w hSw; (try dsimp only at hSw); go_simp) <;> with_reducible rfl
  try simp only [Act.put, sA, sB, sC]
  refine tkV 32 (v := ?_) rfl (Or.inl ⟨by rfl, ?_⟩) ?_
  rotate_left
  · (intro w hSw; (try dsimp only at hSw); go_simp) <;> with_reducible rfl
  try simp only [Act.put, sA, sB, sC]
  refine tkV 33 (v := ?_) rfl (Or.inl ⟨by rfl, ?_⟩) ?_
  rotate_left
  · (intro w hSw; (try dsimp only at hSw); go_simp) <;> with_reducible rfl
  try simp only [Act.put, sA, sB, sC]
  refine tkV 34 (v := ?_) rfl (Or.inl ⟨by rfl, ?_⟩) ?_
  rotate_left
  · (intro w hSw; (try dsimp only at hSw); go_simp) <;> with_reducible rfl
  try simp only [Act.put, sA, sB, sC]
  refine tkV 35 (v := ?_) rfl (Or.inl ⟨by rfl, ?_⟩) ?_
  rotate_left
  · (intro w hSw; (try dsimp only at hSw); go_simp) <;> with_reducible rfl
  try simp only [Act.put, sA, sB, sC]
  refine tkV 38 (v := ?_) rfl (Or.inl ⟨by rfl, ?_⟩) ?_
  rotate_left
  · (intro w hSw; (try dsimp only at hSw); go_simp) <;> with_reducible rfl
  try simp only [Act.put, sA, sB, sC]
  refine tkV 39 (v := ?_) rfl (Or.inl ⟨by rfl, ?_⟩) ?_
  rotate_left
  · (intro w hSw; (try dsimp only at hSw); go_simp) <;> with_reducible rfl
  try simp only [Act.put, sA, sB, sC]
  refine tkV 42 (v := ?_) rfl (Or.inl ⟨by rfl, ?_⟩) ?_
  rotate_left
  · (intro w hSw; (try dsimp only at hSw); go_simp) <;> with_reducible rfl
  try simp only [Act.put, sA, sB, sC]
  refine tkV 43 (v := ?_) rfl (Or.inl ⟨by rfl, ?_⟩) ?_
  rotate_left
  · (intro w hSw; (try dsimp only at hSw); go_simp) <;> with_reducible rfl
  try simp only [Act.put, sA, sB, sC]
  refine tkV 46 (v := ?_) rfl (Or.inl ⟨by rfl, ?_⟩) ?_
  rotate_left
  · (intro w hSw; (try dsimp only at hSw); go_simp) <;> with_reducible rfl
  try simp only [Act.put, sA, sB, sC]
  refine wpAnyH_take (i := 47) (oi := { dst := some 50, op := Op.load 37 (Operand.tmp 49), type := 37, pos := "fields.go:55", after := #[{ on := 46, ground := Ground.data }], guard := none }) (v := .agg tc.toArray) rfl (by kernel_rfl) (by kernel_rfl) (by kernel_rfl) (fun _ _ _ h => h) (yieldsIf_load_mid rfl 37 _ rfl w.heap.size 14 rfl tc _ (fun _ h => h.2.2.2.2.2.2.2.2.2.2.2.2.2.2.2) Tryz.underlying37 rfl q16) (by assumption) ?_
  try simp only [Act.put, sA, sB, sC]
  refine tkV 48 (v := ?_) rfl (Or.inl ⟨by rfl, ?_⟩) ?_
  rotate_left
  · (intro w hSw; (try dsimp only at hSw); go_simp) <;> with_reducible rfl
  try simp only [Act.put, sA, sB, sC]
  refine tkV 53 (v := ?_) rfl (Or.inl ⟨by rfl, ?_⟩) ?_
  rotate_left
  · (intro w hSw; (try dsimp only at hSw); go_simp) <;> with_reducible rfl
  try simp only [Act.put, sA, sB, sC]
  refine tkV 54 (v := ?_) rfl (Or.inl ⟨by rfl, ?_⟩) ?_
  rotate_left
  · (intro w hSw; (try dsimp only at hSw); go_simp) <;> with_reducible rfl
  try simp only [Act.put, sA, sB, sC]
  refine tkV 55 (v := ?_) rfl (Or.inl ⟨by rfl, ?_⟩) ?_
  rotate_left
  · (intro w hSw; (try dsimp only at hSw); go_simp) <;> with_reducible rfl
  try simp only [Act.put, sA, sB, sC]
  refine tkV 56 (v := ?_) rfl (Or.inl ⟨by rfl, ?_⟩) ?_
  rotate_left
  · (intro w hSw; (try dsimp only at hSw); go_simp) <;> with_reducible rfl
  try simp only [Act.put, sA, sB, sC]
  refine tkV 59 (v := ?_) rfl (Or.inl ⟨by rfl, ?_⟩) ?_
  rotate_left
  · (intro w hSw; (try dsimp only at hSw); go_simp) <;> with_reducible rfl
  try simp only [Act.put, sA, sB, sC]
  refine tkV 60 (v := ?_) rfl (Or.inl ⟨by rfl, ?_⟩) ?_
  rotate_left
  · (intro w hSw; (try dsimp only at hSw); go_simp) <;> with_reducible rfl
  try simp only [Act.put, sA, sB, sC]
  refine tkV 61 (v := ?_) rfl (Or.inl ⟨by rfl, ?_⟩) ?_
  rotate_left
  · (intro w hSw; (try dsimp only at hSw); go_simp) <;> with_reducible rfl
  try simp only [Act.put, sA, sB, sC]
  refine wpAnyH_ready (rs := [4]) (by kernel_rfl) (by simp) ?_
  refine acV 4 rfl (fun K hK => ?_) AllReadyH.nil
  go_simp
  refine (bitP_any _ _ _).mono ?_
  rintro _ _ ⟨rfl, rfl⟩
  refine hK.out _ _ (by assumption) (fun hHeld => ?_)
  clear hK K
  refine wpAnyH_ready (rs := [9]) (by kernel_rfl) (by simp) ?_
  refine acV 9 rfl (fun K hK => ?_) AllReadyH.nil
  go_simp
  refine (bitP_any _ _ _).mono ?_
  rintro _ _ ⟨rfl, rfl⟩
  refine hK.out _ _ (by assumption) (fun hHeld => ?_)
  clear hK K
  refine tkV 10 (v := ?_) rfl (Or.inl ⟨by rfl, ?_⟩) ?_
  rotate_left
  · (intro w hSw; (try dsimp only at hSw); go_simp) <;> with_reducible rfl
  try simp only [Act.put, sA, sB, sC]
  refine wpAnyH_ready (rs := [14]) (by kernel_rfl) (by simp) ?_
  refine acV 14 rfl (fun K hK => ?_) AllReadyH.nil
  go_simp
  refine (bitP_any _ _ _).mono ?_
  rintro _ _ ⟨rfl, rfl⟩
  refine hK.out _ _ (by assumption) (fun hHeld => ?_)
  clear hK K
  refine tkV 15 (v := ?_) rfl (Or.inl ⟨by rfl, ?_⟩) ?_
  rotate_left
  · (intro w hSw; (try dsimp only at hSw); go_simp) <;> with_reducible rfl
  try simp only [Act.put, sA, sB, sC]
  refine wpAnyH_ready (rs := [19]) (by kernel_rfl) (by simp) ?_
  refine acV 19 rfl (fun K hK => ?_) AllReadyH.nil
  go_simp
  refine (bitP_any _ _ _).mono ?_
  rintro _ _ ⟨rfl, rfl⟩
  refine hK.out _ _ (by assumption) (fun hHeld => ?_)
  clear hK K
  refine tkV 20 (v := ?_) rfl (Or.inl ⟨by rfl, ?_⟩) ?_
  rotate_left
  · (intro w hSw; (try dsimp only at hSw); go_simp) <;> with_reducible rfl
  try simp only [Act.put, sA, sB, sC]
  refine wpAnyH_ready (rs := [24]) (by kernel_rfl) (by simp) ?_
  refine acV 24 rfl (fun K hK => ?_) AllReadyH.nil
  go_simp
  refine (bitP_any _ _ _).mono ?_
  rintro _ _ ⟨rfl, rfl⟩
  refine hK.out _ _ (by assumption) (fun hHeld => ?_)
  clear hK K
  refine tkV 25 (v := ?_) rfl (Or.inl ⟨by rfl, ?_⟩) ?_
  rotate_left
  · (intro w hSw; (try dsimp only at hSw); go_simp) <;> with_reducible rfl
  try simp only [Act.put, sA, sB, sC]
  refine wpAnyH_ready (rs := [30]) (by kernel_rfl) (by simp) ?_
  refine acV 30 rfl (fun K hK => ?_) AllReadyH.nil
  go_simp
  refine (bitP_any _ _ _).mono ?_
  rintro _ _ ⟨rfl, rfl⟩
  refine hK.out _ _ (by assumption) (fun hHeld => ?_)
  clear hK K
  refine tkV 31 (v := ?_) rfl (Or.inl ⟨by rfl, ?_⟩) ?_
  rotate_left
  · (intro w hSw; (try dsimp only at hSw); go_simp) <;> with_reducible rfl
  try simp only [Act.put, sA, sB, sC]
  refine wpAnyH_ready (rs := [36]) (by kernel_rfl) (by simp) ?_
  refine acV 36 rfl (fun K hK => ?_) AllReadyH.nil
  go_simp
  refine (bitP_any _ _ _).mono ?_
  rintro _ _ ⟨rfl, rfl⟩
  refine hK.out _ _ (by assumption) (fun hHeld => ?_)
  clear hK K
  refine tkV 37 (v := ?_) rfl (Or.inl ⟨by rfl, ?_⟩) ?_
  rotate_left
  · (intro w hSw; (try dsimp only at hSw); go_simp) <;> with_reducible rfl
  try simp only [Act.put, sA, sB, sC]
  refine wpAnyH_ready (rs := [40]) (by kernel_rfl) (by simp) ?_
  refine acV 40 rfl (fun K hK => ?_) AllReadyH.nil
  go_simp
  refine (bitP_any _ _ _).mono ?_
  rintro _ _ ⟨rfl, rfl⟩
  refine hK.out _ _ (by assumption) (fun hHeld => ?_)
  clear hK K
  refine tkV 41 (v := ?_) rfl (Or.inl ⟨by rfl, ?_⟩) ?_
  rotate_left
  · (intro w hSw; (try dsimp only at hSw); go_simp) <;> with_reducible rfl
  try simp only [Act.put, sA, sB, sC]
  refine wpAnyH_ready (rs := [44]) (by kernel_rfl) (by simp) ?_
  refine acV 44 rfl (fun K hK => ?_) AllReadyH.nil
  go_simp
  refine (bitP_any _ _ _).mono ?_
  rintro _ _ ⟨rfl, rfl⟩
  refine hK.out _ _ (by assumption) (fun hHeld => ?_)
  clear hK K
  refine tkV 45 (v := ?_) rfl (Or.inl ⟨by rfl, ?_⟩) ?_
  rotate_left
  · (intro w hSw; (try dsimp only at hSw); go_simp) <;> with_reducible rfl
  try simp only [Act.put, sA, sB, sC]
  refine wpAnyH_ready (rs := [49]) (by kernel_rfl) (by simp) ?_
  refine acV 49 rfl (fun K hK => ?_) AllReadyH.nil
  go_simp
  refine (HSM.out _ HD.out.1).mono ?_
  rintro _ w1 ⟨rfl, b1⟩
  have HD1 : Hid (Below w.heap.size w w1 ∧ PkAt w1 w.heap.size p tc (.slice ao p.bys.length cap)) := ⟨HD.out.1.trans (b1.mono HD.out.1.size), HD.out.2.later b1 HD.out.2.lt⟩
  clear b1
  refine hK.out _ _ (HD1.out.2.held hl16) (fun hHeld => ?_)
  clear hK K
  refine tkV 50 (v := ?_) rfl (Or.inl ⟨by rfl, ?_⟩) ?_
  rotate_left
  · (intro w hSw; (try dsimp only at hSw); go_simp) <;> with_reducible rfl
  try simp only [Act.put, sA, sB, sC]
  refine wpAnyH_ready (rs := [51]) (by kernel_rfl) (by simp) ?_
  refine acV 51 rfl (fun K hK => ?_) AllReadyH.nil
  go_simp
  refine (bitP_any _ _ _).mono ?_
  rintro _ _ ⟨rfl, rfl⟩
  refine hK.out _ _ (by assumption) (fun hHeld => ?_)
  clear hK K
  refine tkV 52 (v := ?_) rfl (Or.inl ⟨by rfl, ?_⟩) ?_
  rotate_left
  · (intro w hSw; (try dsimp only at hSw); go_simp) <;> with_reducible rfl
  try simp only [Act.put, sA, sB, sC]
  refine wpAnyH_ready (rs := [57]) (by kernel_rfl) (by simp) ?_
  refine acV 57 rfl (fun K hK => ?_) AllReadyH.nil
  go_simp
  refine (bitP_any _ _ _).mono ?_
  rintro _ _ ⟨rfl, rfl⟩
  refine hK.out _ _ (by assumption) (fun hHeld => ?_)
  clear hK K
  refine tkV 58 (v := ?_) rfl (Or.inl ⟨by rfl, ?_⟩) ?_
  rotate_left
  · (intro w hSw; (try dsimp only at hSw); go_simp) <;> with_reducible rfl
  try simp only [Act.put, sA, sB, sC]
  refine wpAnyH_ready (rs := [62]) (by kernel_rfl) (by simp) ?_
  refine acV 62 rfl (fun K hK => ?_) AllReadyH.nil
  go_simp
  refine (bitP_any _ _ _).mono ?_
  rintro _ _ ⟨rfl, rfl⟩
  refine hK.out _ _ (by assumption) (fun hHeld => ?_)
  clear hK K
  refine tkV 63 (v := ?_) rfl (Or.inl ⟨by rfl, ?_⟩) ?_
  rotate_left
  · (intro w hSw; (try dsimp only at hSw); go_simp) <;> with_reducible rfl
  try simp only [Act.put, sA, sB, sC]
  refine tkV 64 (v := ?_) rfl (Or.inl ⟨by rfl, ?_⟩) ?_
  rotate_left
  · (intro w hSw; (try dsimp only at hSw); go_simp) <;> with_reducible rfl
  try simp only [Act.put, sA, sB, sC]
  refine wpAnyH_done (by kernel_rfl) ?_ _
  go_wp2_with fail
  go_ret
  refine ⟨?_, HD1.out.1⟩
  rw [HC.out]
  unfold fillP
  rw [← HF.out.1, ← HF.out.2.1, ← HF.out.2.2.1, ← HF.out.2.2.2]
  rfl
end Go.Proofs.YtldcbabgommghaaGreatDoor
