/- Check of package packet, for every packet. -/
import Derived.Test.YtgjjcmhlmdfccaaGreatDoorPkIJ
namespace Go.Proofs.YtgjjcmhlmdfccaaGreatDoor
open Go.RowKit
set_option maxRecDepth 8000

/-- May it be, as the program asks. -/
def chkP (p : PkD) (tz : Bool) : Bool := (nmP p.kind != 0) && !(bits .andNot .u16 (fillP p tz) (nmP p.kind) != 0) && (flN (nmP p.kind) 12).all (fun j => rgB j p)

theorem pkSz0 : (Tryz.prog.info? 39).map (·.size) = some 32 := by kernel_rfl
theorem pkSz (p : PkD) (tc : List Value) (bv : Value) (hl : tc.length = 16) : (Tryz.prog.info? 39).map (·.size) = some (pkL p tc bv).toArray.size := by
  have : (pkL p tc bv).toArray.size = 32 := by simp [pkL, hl]
  rw [this]
  exact pkSz0

theorem rows_sees {w : World} {B : Nat} {v : Value} {l : List Nat} (h : w.ownsRow B 85 4 v l.length (rowsF l)) : SeesR w v 4 (l.map rowC) := by
  have e : rowsF l = (l.map rowC).flatten := by unfold rowsF; rw [List.flatMap_def]
  rw [e] at h
  exact seesR_own (by simpa using h) (fun c hc => by obtain ⟨j, _, rfl⟩ := List.mem_map.1 hc; rfl)

/-- A row, place by place. -/
theorem rows_at {w : World} {v : Value} {l : List Nat} (h : SeesR w v 4 (l.map rowC)) (k : Nat) (hk : k < l.length) : ∃ b off c, v = .slice (some ⟨b, off, none⟩) l.length c ∧ l.length ≤ c ∧ w.cell? ⟨b, off + k * 4, none⟩ = some (.int .u16 (pw l[k])) ∧ w.cell? ⟨b, off + k * 4 + 1, none⟩ = some (fv (fRt l[k])) ∧ w.cell? ⟨b, off + k * 4 + 2, none⟩ = some (fv (fPt l[k])) ∧ w.cell? ⟨b, off + k * 4 + 3, none⟩ = some (fv (fGt l[k])) := by
  obtain ⟨ao, c, rfl, h1, _, _, h3⟩ := h
  rw [List.length_map] at h1 ⊢
  rcases h3 with h3 | ⟨b, off, rfl, h3⟩
  · rw [List.map_eq_nil_iff] at h3; subst h3; simp at hk
  · have g := h3 k (by simpa using hk)
    refine ⟨b, off, c, rfl, h1, ?_, ?_, ?_, ?_⟩
    · simpa [rowC] using g 0 (by omega)
    · simpa [rowC] using g 1 (by omega)
    · simpa [rowC] using g 2 (by omega)
    · simpa [rowC] using g 3 (by omega)

theorem enter_fRt (j : Nat) (args : Array Value) (w : World) : (callFunc (fRt j) args).run Tryz.prog w = .ok (.enter (fRt j) args) w := by
  match j with
  | 0 => rfl
  | 1 => rfl
  | 2 => rfl
  | 3 => rfl
  | 4 => rfl
  | 5 => rfl
  | 6 => rfl
  | 7 => rfl
  | 8 => rfl
  | 9 => rfl
  | 10 => rfl
  | _ + 11 => rfl
/-- A load of a whole row, its guard saying yes. -/
theorem load_rowG {P : Program} {ops : Array Oper} {rest : List Oper} {o : Oper} {a : Act} {w : World} {Q : Exit → Act → World → Prop} (hw : Region.wanted o (yielded ops a.tmps) = true) (ty : TypeId) (x : Operand) (ho : o.op = .load ty x)
    (g : Nat) (hx : a.eval x = .pointer (some ⟨g, 0, none⟩)) (t : TypeId) (cs : Array Value) (fr : Nat × Nat) (d : TypeDesc) (hg : w.heap[g]? = some (.cells cs t fr))
    (hu : P.underlying ty = some d) (hd : (match d with | .struct _ | .array _ _ => true | _ => false) = true) (hi : (P.info? ty).map (·.size) = some cs.size)
    (h : wpList P ops Q rest (a.put o.dst (.agg cs)) w) : wpList P ops Q (o :: rest) a w :=
  BigFrame.wpList_want hw fun _ hK => wp_load_row ty x ho g hx t cs fr d hg hu hd hi (hK _ _ h)

/-- What a walk over a packet's rows has in hand. -/
structure PkH (w : World) (p : PkD) (tc : List Value) (bv : Value) (W : World) : Prop where
  bel : Below w.heap.size w W
  at_ : PkAt W w.heap.size p tc bv
  pk : SeesPk W tc bv p
  nam : Nam W
  pnam : PNam W

theorem PkH.later {w W W' : World} {p : PkD} {tc : List Value} {bv : Value} (h : PkH w p tc bv W) (hb : Below W.heap.size W W') : PkH w p tc bv W' :=
  ⟨h.bel.trans (hb.mono h.bel.size), h.at_.later hb h.at_.lt, h.pk.below hb (Nat.le_refl _), h.nam.below hb h.nam.lt, h.pnam.below hb h.pnam.lt⟩

theorem PkH.box {w : World} {p : PkD} {tc : List Value} {bv : Value} (hs : SeesPk w tc bv p) (hn : Nam w) (hp : PNam w) : PkH w p tc bv (w.alloc (.cells (pkL p tc bv).toArray 39)) :=
  ⟨one_alloc _ _, heap_alloc_new _ _, hs.below (one_alloc _ _) (Nat.le_refl _), hn.below (one_alloc _ _) hn.lt, hp.below (one_alloc _ _) hp.lt⟩

set_option maxHeartbeats 4000000 in
theorem checkP_any (p : PkD) (tc : List Value) (bv : Value) (tz : Bool) (hz : tz = true ↔ p.tx = txN) (w : World) (hg : p.good) (hs : SeesPk w tc bv p) (hn : Nam w) (hp : PNam w) :
    Calls Tryz.prog 16 #[.agg (pkL p tc bv).toArray] w fun r w' => r = .returned (.int .i64 (if chkP p tz then 0 else 150)) ∧ Below w.heap.size w w' := by
  obtain ⟨E, hE⟩ : ∃ E : Int, E = (if chkP p tz then 0 else 150) := ⟨_, rfl⟩
  rw [← hE]
  have HE : Hid _ := hE
  clear hE
  obtain ⟨W, hW⟩ : ∃ W, W = w.alloc (.cells (pkL p tc bv).toArray 39) := ⟨_, rfl⟩
  have HA : Hid _ := hW
  have HW : Hid (PkH w p tc bv W) := by rw [hW]; exact PkH.box hs hn hp
  have HX : Hid (p.good ∧ (tz = true ↔ p.tx = txN) ∧ tc.length = 16) := ⟨hg, hz, hs.tx.len⟩
  have q32 := pkSz p tc bv hs.tx.len
  clear hW hs hn hp hg hz
  have c0 : W.cell? ⟨w.heap.size, 0, none⟩ = some (.int .i8 p.kind) := pk_at HW.out.at_ rfl
  go_enter Tryz.func16, Tryz.ntmps16
  go_upto_region 1 with fail
  rw [← HA.out]
  clear HA
  go_wp2_with fail
  refine (namedBy_any _ _ HW.out.pnam).mono ?_
  rintro _ w1 ⟨rfl, b1⟩
  have H1 : Hid (PkH w p tc bv w1) := HW.out.later b1
  clear b1 HW c0
  obtain ⟨N, hN⟩ : ∃ N, N = nmP p.kind := ⟨_, rfl⟩
  rw [← hN]
  have HN : Hid _ := hN
  clear hN
  cases hb : (N == 0) with
  | true =>
    have HF : Hid (E = 150) := by
      show E = 150
      rw [HE.out, if_neg (by unfold chkP; rw [← HN.out]; simp [show N = 0 by simpa using hb])]
    obtain rfl : N = 0 := by simpa using hb
    clear hb
    go_wp2_with fail
    go_ret
    exact ⟨by rw [HF.out]; rfl, H1.out.bel⟩
  | false =>
  have hrow := H1.out.at_
  unfold PkAt at hrow
  go_wp2_with (refine load_rowG (by rfl) 39 _ rfl w.heap.size rfl 39 _ (0, 0) _ hrow Tryz.underlying39 rfl q32 ?_)
  refine (filledP_any p tc bv tz HX.out.2.1 _ H1.out.pk).mono ?_
  rintro _ w2 ⟨rfl, b2⟩
  have H2 : Hid (PkH w p tc bv w2) := H1.out.later b2
  clear b2 H1 hrow
  obtain ⟨M, hM⟩ : ∃ M, M = fillP p tz := ⟨_, rfl⟩
  rw [← hM]
  have HM : Hid _ := hM
  clear hM
  cases hc : (bits .andNot .u16 M N != 0) with
  | true =>
    have HF : Hid (E = 150) := by
      show E = 150
      rw [HE.out, if_neg (by unfold chkP; rw [← HN.out, ← HM.out, hc]; simp)]
    go_wp2_with fail
    go_ret
    exact ⟨by rw [HF.out]; rfl, H2.out.bel⟩
  | false =>
  have HF : Hid (E = if (flN N 12).all (fun j => rgB j p) = true then 0 else 150) := by
    show E = _
    rw [HE.out]
    unfold chkP
    rw [← HN.out, ← HM.out, hc, show (N != 0) = true by rw [bne, hb]; rfl]
    simp
  clear HE HN HM
  go_wp2_with fail
  refine (rowsOf_any N _).mono ?_
  rintro _ w3 ⟨v, rfl, ho, b3⟩
  have H3 : Hid (PkH w p tc bv w3 ∧ SeesR w3 v 4 ((flN N 12).map rowC)) := ⟨H2.out.later b3, rows_sees ho⟩
  have hlen := flN_len N 12
  obtain ⟨L, hL⟩ : ∃ L, L = flN N 12 := ⟨_, rfl⟩
  rw [← hL] at H3 HF hlen
  clear ho b3 H2 hc hb hL
  obtain ⟨va, vc, rfl⟩ : ∃ va vc, v = .slice va L.length vc := by obtain ⟨ao, c, e, _⟩ := H3.out.2; rw [List.length_map] at e; exact ⟨ao, c, e⟩
  go_wp2_with fail
  go_loopw [21] (fun i wr => ∃ k : Nat, k ≤ L.length ∧ i = .int .i64 k ∧ Hid (PkH w p tc bv wr ∧ SeesR wr (.slice va L.length vc) 4 (L.map rowC)) ∧ Hid (∀ j ∈ L.take k, rgB j p = true)) (fun i _ => L.length - (intOf i).toNat)
  case atStart => exact ⟨0, Nat.zero_le _, rfl, H3, fun j hj => by simp at hj⟩
  case round =>
    clear H3
    obtain ⟨k, hk, rfl, H, HR⟩ := hrel
    by_cases hlt : k < L.length
    · obtain ⟨b, off, c, e, hcl, c0, c1, c2, c3⟩ := rows_at H.out.2 k hlt
      simp at e
      obtain ⟨rfl, rfl⟩ := e
      obtain ⟨j, hj⟩ : ∃ j, j = L[k] := ⟨_, rfl⟩
      rw [← hj] at c0 c1 c2 c3
      have HJ : Hid (j = L[k]) := hj
      clear hj
      have hsf := store_fn15
      obtain ⟨V, HV⟩ : ∃ V, Hid (V = wr.alloc (.cells #[.int .u16 (pw j), .func (.func (fRt j)) #[] #[], .func (.func (fPt j)) #[] #[], .func (.func (fGt j)) #[] #[]] 85)) := ⟨_, rfl⟩
      have HVV : Hid (PkH w p tc bv V ∧ SeesR V (.slice (some ⟨b, off, none⟩) L.length vc) 4 (L.map rowC) ∧ V.heap[wr.heap.size]? = some (.cells (rowC j).toArray 85 (0, 0))) := by
        rw [HV.out]
        exact ⟨H.out.1.later (one_alloc _ _), H.out.2.below (one_alloc _ _) (Nat.le_refl _), heap_alloc_new _ _⟩
      go_upto_region 7 with fail
      rw [← HV.out]
      clear HV c0 c1 c2 c3 H hsf
      have d1 : V.cell? ⟨wr.heap.size, 1, none⟩ = some (fv (fRt j)) := pk_at HVV.out.2.2 rfl
      have hrow := HVV.out.1.at_
      unfold PkAt at hrow
      have hen := enter_fRt j
      go_wp2_with (refine wpList_load_row rfl 39 _ rfl w.heap.size rfl 39 _ (0, 0) _ hrow Tryz.underlying39 rfl q32 ?_)
      refine (right_any j p tc bv _ HX.out.1 HVV.out.1.pk HVV.out.1.nam).mono ?_
      rintro _ w5 ⟨rfl, b5⟩
      have H5 : Hid (PkH w p tc bv w5 ∧ SeesR w5 (.slice (some ⟨b, off, none⟩) L.length vc) 4 (L.map rowC)) := ⟨HVV.out.1.later b5, HVV.out.2.1.below b5 (Nat.le_refl _)⟩
      clear b5 HVV hrow d1 hen
      cases hr : rgB j p with
      | false =>
        have HE2 : Hid (E = 150) := by
          show E = 150
          rw [HF.out, if_neg]
          intro h
          rw [List.all_eq_true] at h
          have := h j (by rw [HJ.out]; exact List.getElem_mem _)
          rw [hr] at this
          cases this
        go_wp2_with fail
        go_ret
        exact ⟨by rw [HE2.out]; rfl, H5.out.1.bel⟩
      | true =>
        have HR2 : Hid (∀ j ∈ L.take (k + 1), rgB j p = true) := fun i hi => by
          rw [List.take_succ_eq_append_getElem hlt] at hi
          rcases List.mem_append.1 hi with hi | hi
          · exact HR.out i hi
          · simp at hi; rw [hi, ← HJ.out]; exact hr
        go_wp2_with fail
        go_roundw
        case rel => exact ⟨k + 1, by omega, by go_num, H5, HR2⟩
        case measure => simp [intOf]; omega
    · obtain rfl : k = L.length := by omega
      have HE2 : Hid (E = 0) := by
        show E = 0
        rw [HF.out, if_pos]
        rw [List.all_eq_true]
        have := HR.out
        rw [List.take_length] at this
        exact this
      go_wp2_with fail
      go_ret
      exact ⟨by rw [HE2.out]; rfl, H.out.1.bel⟩
end Go.Proofs.YtgjjcmhlmdfccaaGreatDoor
