/- laid and Write of package packet. -/
import Derived.Test.YtldcbabgommghaaGreatDoorPkKJ
import Derived.Test.YtldcbabgommghaaGreatDoorWriterAllJ
import Derived.Test.YtldcbabgommghaaGreatDoorLeafSumJ
import Derived.Test.YtldcbabgommghaaGreatDoorReaderAllJ
import Derived.Test.YtldcbabgommghaaGreatDoorRqLJ
import Derived.Test.YtldcbabgommghaaGreatDoorChk5J
import Derived.Test.YtldcbabgommghaaGreatDoorCopyTJ
namespace Go.Proofs.YtldcbabgommghaaGreatDoor
open Go.RowKit
set_option maxRecDepth 8000

/-- The fields that a kind names, and what stands behind the sum. -/
abbrev fldsP (p : PkD) : List Nat := flN (nmP p.kind) 12
def bodyP (p : PkD) : List Int := [p.kind % 256] ++ (fldsP p).flatMap (fun j => fdB j p)
def pkB (p : PkD) : List Int := be4 (adler (bodyP p)) ++ bodyP p

theorem fdB_len (j : Nat) (p : PkD) (h : rgB j p = true) : (fdB j p).length ≤ 4100 := by
  match j with
  | 0 => simp [fdB, be4]
  | 1 => simp [fdB, be4]
  | 2 => simp [fdB, be8, be4]
  | 3 => simp [fdB, be4]
  | 4 => simp [fdB, be4]
  | 5 => simp [fdB, be4]
  | 6 => simp [fdB, be4]
  | 7 => simp [fdB]
  | 8 => simp [fdB]
  | 9 =>
    have h : txB15 p = true := h
    unfold txB15 at h
    rw [Bool.and_eq_true] at h
    have := txB_t p.tx h.1
    simp [fdB, be4]; omega
  | 10 =>
    have h : decide (1 ≤ p.bys.length ∧ p.bys.length ≤ 4096) = true := h
    have := (of_decide_eq_true h).2
    simp [fdB, be4]; omega
  | _ + 11 => simp [fdB, be8, be4]

theorem flat_len (p : PkD) : ∀ (l : List Nat), (∀ j ∈ l, rgB j p = true) → (l.flatMap (fun j => fdB j p)).length ≤ 4100 * l.length
  | [], _ => by simp
  | j :: l, h => by
    rw [List.flatMap_cons, List.length_append, List.length_cons]
    have a := fdB_len j p (h j (by simp))
    have b := flat_len p l (fun i hi => h i (by simp [hi]))
    omega

theorem PkH.of {w W : World} {p : PkD} {tc : List Value} {bv : Value} (hs : SeesPk w tc bv p) (hn : Nam w) (hp : PNam w) (hb : Below w.heap.size w W) (ha : PkAt W w.heap.size p tc bv) : PkH w p tc bv W :=
  ⟨hb, ha, hs.below hb (Nat.le_refl _), hn.below hb hn.lt, hp.below hb hp.lt⟩

/-- What laid has in hand: the packet, its Writer with these bytes, the rows. -/
structure LaidH (w : World) (p : PkD) (tc : List Value) (bv : Value) (xs : List Int) (W : World) (v : Value) : Prop where
  h : PkH w p tc bv W
  iw : IsW W (w.heap.size + 1) v xs
  vb : ∀ k, v.ownBlock = some k → w.heap.size + 1 < k

theorem LaidH.later {w W W' : World} {p : PkD} {tc : List Value} {bv v : Value} {xs : List Int} (h : LaidH w p tc bv xs W v) (hb : Below W.heap.size W W') : LaidH w p tc bv xs W' v :=
  ⟨h.h.later hb, h.iw.kept (Below.kept hb) (by have := lt_of_block h.iw.1; omega) (fun k hk => by have := h.iw.lt.2 k hk; omega), h.vb⟩

theorem LaidH.puts {w W W' : World} {p : PkD} {tc : List Value} {bv v : Value} {xs ys : List Int} (hs : SeesPk w tc bv p) (hn : Nam w) (hp : PNam w) (h : LaidH w p tc bv xs W v) (hu : Puts W (w.heap.size + 1) v ys W') : ∃ v', LaidH w p tc bv ys W' v' ∧ NewRow W v v' ∧ Kept W W' (fun k => k = w.heap.size + 1 ∨ v.ownBlock = some k) := by
  obtain ⟨v', h1, h2, h3⟩ := hu
  have hsz := h.h.bel.size
  have hb : Below w.heap.size w W' := h.h.bel.trans (h3.below hsz (fun k e => by rcases e with e | e; (· omega); (· have := h.vb k e; omega)))
  refine ⟨v', ⟨PkH.of hs hn hp hb (h3.heap h.h.at_ (fun e => by rcases e with e | e; (· omega); (· have := h.vb _ e; omega))), h1, fun k hk => ?_⟩, h2, h3⟩
  rcases h2 with e | ⟨k', e, hk'⟩
  · exact h.vb k (by rw [← e]; exact hk)
  · rw [hk] at e; simp at e; have := lt_of_block h.iw.1; omega

set_option maxHeartbeats 4000000 in
theorem laid_any (p : PkD) (tc : List Value) (bv : Value) (w : World) (hg : p.good) (hs : SeesPk w tc bv p) (hn : Nam w) (hp : PNam w) (hr : ∀ j ∈ fldsP p, rgB j p = true) :
    Calls Tryz.prog 27 #[.agg (pkL p tc bv).toArray] w fun r w' => ∃ v, r = .returned v ∧ Owns w' w.heap.size v (bodyP p) ∧ Below w.heap.size w w' := by
  have HX : Hid (SeesPk w tc bv p ∧ Nam w ∧ PNam w ∧ p.good ∧ ∀ j ∈ fldsP p, rgB j p = true) := ⟨hs, hn, hp, hg, hr⟩
  have q32 := pkSz p tc bv hs.tx.len
  obtain ⟨W, hW⟩ : ∃ W, W = (w.alloc (.cells (pkL p tc bv).toArray 39)).alloc (.cells #[.slice none 0 0] 73) := ⟨_, rfl⟩
  have HW : Hid (LaidH w p tc bv [] W (.slice none 0 0)) := by
    have hb : Below w.heap.size w W := by rw [hW]; exact two_alloc _ _ _
    refine ⟨PkH.of hs hn hp hb ?_, ⟨?_, ?_⟩, fun k hk => by simp [Value.ownBlock] at hk⟩
    · rw [hW]; unfold PkAt; rw [Below.heap_alloc _ _ _ (by simp)]; exact heap_alloc_new _ _
    · rw [hW]; have := heap_alloc_new (w.alloc (.cells (pkL p tc bv).toArray 39)) (.cells #[.slice none 0 0] 73); simpa using this
    · exact World.ownsRow_nil _ _ _ _
  have HA : Hid _ := hW
  clear hW hs hn hp hg hr
  have c0 : W.cell? ⟨w.heap.size, 0, none⟩ = some (.int .i8 p.kind) := pk_at HW.out.h.at_ rfl
  go_enter Tryz.func27, Tryz.ntmps27
  go_upto_region 2 with fail
  rw [← HA.out]
  clear HA
  go_wp2_with fail
  refine (wInt8_any _ _ [] _ _ HW.out.iw (by simp)).mono ?_
  rintro _ w1 ⟨rfl, hp⟩
  obtain ⟨v1, h1, hn1, hk1⟩ := LaidH.puts HX.out.1 HX.out.2.1 HX.out.2.2.1 HW.out hp
  rw [List.nil_append] at h1
  have H1 : Hid (LaidH w p tc bv [p.kind % 256] w1 v1) := h1
  clear hp h1 hn1 hk1 HW c0
  have c0 : w1.cell? ⟨w.heap.size, 0, none⟩ = some (.int .i8 p.kind) := pk_at H1.out.h.at_ rfl
  go_wp2_with fail
  refine (namedBy_any _ _ H1.out.h.pnam).mono ?_
  rintro _ w2 ⟨rfl, b2⟩
  have H2 : Hid (LaidH w p tc bv [p.kind % 256] w2 v1) := H1.out.later b2
  clear b2 H1 c0
  obtain ⟨N, hN⟩ : ∃ N, N = nmP p.kind := ⟨_, rfl⟩
  rw [← hN]
  have HN : Hid _ := hN
  clear hN
  go_wp2_with fail
  refine (rowsOf_any N _).mono ?_
  rintro _ w3 ⟨rv, rfl, ho, b3⟩
  have H3 : Hid (LaidH w p tc bv [p.kind % 256] w3 v1 ∧ SeesR w3 rv 4 ((flN N 12).map rowC) ∧ (∀ k, rv.ownBlock = some k → k ≠ w.heap.size + 1 ∧ k < w3.heap.size) ∧ ∀ k, v1.ownBlock = some k → rv.ownBlock ≠ some k) := by
    have hlt := H2.out.iw.lt
    refine ⟨H2.out.later b3, rows_sees ho, fun k hk => ?_, fun k hk e => ?_⟩
    · have := ho.lt k hk; omega
    · have := ho.lt k e; have := hlt.2 k hk; omega
  have hlen := flN_len N 12
  obtain ⟨L, hL⟩ : ∃ L, L = flN N 12 := ⟨_, rfl⟩
  have HL : Hid (L = fldsP p) := by show L = fldsP p; rw [hL, HN.out]
  rw [← hL] at H3 hlen
  clear ho b3 H2 hL HN
  obtain ⟨va, vc, rfl⟩ : ∃ va vc, rv = .slice va L.length vc := by obtain ⟨ao, c, e, _⟩ := H3.out.2.1; rw [List.length_map] at e; exact ⟨ao, c, e⟩
  go_wp2_with fail
  go_loopw [14] (fun i wr => ∃ (k : Nat) (v : Value), k ≤ L.length ∧ i = .int .i64 k ∧ Hid (LaidH w p tc bv ([p.kind % 256] ++ (L.take k).flatMap (fun j => fdB j p)) wr v ∧ SeesR wr (.slice va L.length vc) 4 (L.map rowC) ∧ (∀ k, (Value.slice va L.length vc).ownBlock = some k → k ≠ w.heap.size + 1 ∧ k < wr.heap.size) ∧ ∀ k, v.ownBlock = some k → (Value.slice va L.length vc).ownBlock ≠ some k)) (fun i _ => L.length - (intOf i).toNat)
  case atStart => exact ⟨0, v1, Nat.zero_le _, rfl, by have a := H3.out; rw [show [p.kind % 256] = [p.kind % 256] ++ (L.take 0).flatMap (fun j => fdB j p) by simp] at a; exact a⟩
  case round =>
    clear H3
    obtain ⟨k, v, hk, rfl, H⟩ := hrel
    by_cases hlt : k < L.length
    · obtain ⟨b, off, c, e, hcl, c0, c1, c2, c3⟩ := rows_at H.out.2.1 k hlt
      simp at e
      obtain ⟨rfl, rfl⟩ := e
      obtain ⟨j, hj⟩ : ∃ j, j = L[k] := ⟨_, rfl⟩
      rw [← hj] at c0 c1 c2 c3
      have HJ : Hid (j = L[k] ∧ j ∈ L) := ⟨hj, by rw [hj]; exact List.getElem_mem _⟩
      clear hj
      have hsf := store_fn15
      obtain ⟨V, HV⟩ : ∃ V, Hid (V = wr.alloc (.cells #[.int .u16 (pw j), .func (.func (fRt j)) #[] #[], .func (.func (fPt j)) #[] #[], .func (.func (fGt j)) #[] #[]] 101)) := ⟨_, rfl⟩
      have HVV : Hid (LaidH w p tc bv ([p.kind % 256] ++ (L.take k).flatMap (fun j => fdB j p)) V v ∧ SeesR V (.slice (some ⟨b, off, none⟩) L.length vc) 4 (L.map rowC) ∧ V.heap[wr.heap.size]? = some (.cells (rowC j).toArray 101 (0, 0)) ∧ ((∀ k, (Value.slice (some ⟨b, off, none⟩) L.length vc).ownBlock = some k → k ≠ w.heap.size + 1 ∧ k < V.heap.size) ∧ ∀ k, v.ownBlock = some k → (Value.slice (some ⟨b, off, none⟩) L.length vc).ownBlock ≠ some k)) := by
        rw [HV.out]
        exact ⟨H.out.1.later (one_alloc _ _), H.out.2.1.below (one_alloc _ _) (Nat.le_refl _), heap_alloc_new _ _, fun k hk => by have := H.out.2.2.1 k hk; simp; omega, H.out.2.2.2⟩
      go_upto_region 6 with fail
      rw [← HV.out]
      clear HV c0 c1 c2 c3 H hsf
      have d1 : V.cell? ⟨wr.heap.size, 2, none⟩ = some (fv (fPt j)) := pk_at HVV.out.2.2.1 rfl
      have hrow := HVV.out.1.h.at_
      unfold PkAt at hrow
      have hen := enter_fPt j
      go_wp2_with (refine wpList_load_row rfl 39 _ rfl w.heap.size rfl 39 _ (0, 0) _ hrow Tryz.underlying39 rfl q32 ?_)
      have hrj : rgB j p = true := HX.out.2.2.2.2 j (by rw [← HL.out]; exact HJ.out.2)
      have hbl : ([p.kind % 256] ++ (L.take k).flatMap (fun j => fdB j p)).length ≤ 100000 := by
        have := flat_len p (L.take k) (fun i hi => HX.out.2.2.2.2 i (by rw [← HL.out]; exact List.mem_of_mem_take hi))
        rw [List.length_take] at this
        simp only [List.length_append, List.length_cons, List.length_nil]
        omega
      refine (put_any j p tc bv _ v _ _ HVV.out.1.iw hbl HX.out.2.2.2.1 HVV.out.1.h.pk HVV.out.1.h.nam hrj (fun q hq => by
        have := sees_live HX.out.1.bys q hq
        exact ⟨by omega, fun e => by have := HVV.out.1.vb q e; omega⟩)).mono ?_
      rintro _ w5 ⟨rfl, hp5⟩
      obtain ⟨v5, h5, hn5, hk5⟩ := LaidH.puts HX.out.1 HX.out.2.1 HX.out.2.2.1 HVV.out.1 hp5
      have H5 : Hid (LaidH w p tc bv ([p.kind % 256] ++ (L.take (k + 1)).flatMap (fun j => fdB j p)) w5 v5 ∧ SeesR w5 (.slice (some ⟨b, off, none⟩) L.length vc) 4 (L.map rowC) ∧ (∀ k, (Value.slice (some ⟨b, off, none⟩) L.length vc).ownBlock = some k → k ≠ w.heap.size + 1 ∧ k < w5.heap.size) ∧ ∀ k, v5.ownBlock = some k → (Value.slice (some ⟨b, off, none⟩) L.length vc).ownBlock ≠ some k) := by
        have hx := HVV.out.2.2.2
        refine ⟨?_, HVV.out.2.1.kept hk5 (fun q hq e => ?_), fun q hq => ⟨(hx.1 q hq).1, Nat.lt_of_lt_of_le (hx.1 q hq).2 hk5.size⟩, fun q hq e => ?_⟩
        · rw [List.take_succ_eq_append_getElem hlt, List.flatMap_append, ← List.append_assoc, ← HJ.out.1]
          simpa using h5
        · rcases e with e | e
          · exact (hx.1 q hq).1 e
          · exact hx.2 q e hq
        · rcases hn5 with e5 | ⟨q', e5, hq'⟩
          · exact hx.2 q (by rw [← e5]; exact hq) e
          · rw [hq] at e5
            simp at e5
            have := (hx.1 q e).2
            omega
      clear hp5 h5 hn5 hk5 HVV hrow d1 hen hrj hbl
      go_wp2_with fail
      go_roundw
      case rel => exact ⟨k + 1, v5, by omega, by go_num, H5⟩
      case measure => simp [intOf]; omega
    · obtain rfl : k = L.length := by omega
      have HB : Hid (LaidH w p tc bv (bodyP p) wr v ∧ (bodyP p).length ≤ 100000) := by
        have a := H.out.1
        rw [List.take_length, HL.out] at a
        refine ⟨a, ?_⟩
        have := flat_len p (fldsP p) HX.out.2.2.2.2
        have : (fldsP p).length ≤ 12 := flN_len (nmP p.kind) 12
        unfold bodyP
        simp only [List.length_append, List.length_cons, List.length_nil]
        omega
      clear H
      go_wp2_with fail
      refine (wBytes_any _ v _ _ HB.out.1.iw (by have := HB.out.2; omega)).mono ?_
      rintro _ w6 ⟨u, rfl, ho, b6⟩
      have HF : Hid (Owns w6 w.heap.size u (bodyP p) ∧ Below w.heap.size w w6) := ⟨World.ownsRow.mono ho HB.out.1.h.bel.size, HB.out.1.h.bel.trans (b6.mono HB.out.1.h.bel.size)⟩
      clear ho b6 HB
      go_wp2_with fail
      go_ret
      exact ⟨_, rfl, HF.out.1, HF.out.2⟩
end Go.Proofs.YtldcbabgommghaaGreatDoor

/- Write of package packet. -/
namespace Go.Proofs.YtldcbabgommghaaGreatDoor
open Go.RowKit
set_option maxRecDepth 8000

theorem fdB_byts (j : Nat) (p : PkD) (hg : p.good) (hb : Byts p.bys) (h : rgB j p = true) : Byts (fdB j p) := by
  match j with
  | 0 => exact (byts4 _ hg.cb0 (by have := hg.cb1; omega)).append (byts4 _ hg.ct0 (by have := hg.ct1; omega))
  | 1 => exact (byts4 _ hg.lb0 (by have := hg.lb1; omega)).append (byts4 _ hg.lt0 (by have := hg.lt1; omega))
  | 2 => exact byts8 _ (up64_bd _).1 (by have := (up64_bd p.place).2; omega)
  | 3 => exact byts4 _ hg.ep0 (by have := hg.ep1; omega)
  | 4 => exact byts4 _ hg.cu0 (by have := hg.cu1; omega)
  | 5 => exact (byts4 _ hg.ze0 (by have := hg.ze1; omega)).append (byts4 _ hg.zn0 (by have := hg.zn1; omega))
  | 6 => exact (byts4 _ hg.pe0 (by have := hg.pe1; omega)).append (byts4 _ hg.pn0 (by have := hg.pn1; omega))
  | 7 => intro x hx; simp [fdB] at hx; subst hx; cases p.cnt <;> decide
  | 8 => intro x hx; simp [fdB] at hx; subst hx; cases p.fin <;> decide
  | 9 =>
    have h : txB15 p = true := h
    unfold txB15 at h
    rw [Bool.and_eq_true] at h
    have := txB_t p.tx h.1
    exact (byts4 _ (by omega) (by omega)).append (byts_txB p.tx h.1 hg.tx)
  | 10 =>
    have h : decide (1 ≤ p.bys.length ∧ p.bys.length ≤ 4096) = true := h
    have := (of_decide_eq_true h).2
    exact (byts4 _ (by omega) (by omega)).append hb
  | _ + 11 => exact byts8 _ (up64_bd _).1 (by have := (up64_bd p.ses).2; omega)

theorem flat_byts (p : PkD) (hg : p.good) (hb : Byts p.bys) : ∀ (l : List Nat), (∀ j ∈ l, rgB j p = true) → Byts (l.flatMap (fun j => fdB j p))
  | [], _ => by intro x hx; simp at hx
  | j :: l, h => by
    rw [List.flatMap_cons]
    exact (fdB_byts j p hg hb (h j (by simp))).append (flat_byts p hg hb l (fun i hi => h i (by simp [hi])))

theorem body_byts (p : PkD) (hg : p.good) (hb : Byts p.bys) (h : ∀ j ∈ fldsP p, rgB j p = true) : Byts (bodyP p) :=
  Byts.append (by intro x hx; simp at hx; subst hx; omega) (flat_byts p hg hb _ h)

theorem chk_all {p : PkD} {tz : Bool} (h : chkP p tz = true) : ∀ j ∈ fldsP p, rgB j p = true := by
  unfold chkP at h
  rw [Bool.and_eq_true] at h
  exact fun j hj => (List.all_eq_true.1 h.2) j hj

theorem body_len (p : PkD) (h : ∀ j ∈ fldsP p, rgB j p = true) : (bodyP p).length ≤ 100000 := by
  have := flat_len p (fldsP p) h
  have : (fldsP p).length ≤ 12 := flN_len (nmP p.kind) 12
  unfold bodyP
  simp only [List.length_append, List.length_cons, List.length_nil]
  omega

theorem pkB_len (p : PkD) : (pkB p).length = 4 + (bodyP p).length := by unfold pkB; simp [be4]; omega
theorem body_pos (p : PkD) : 1 ≤ (bodyP p).length := by unfold bodyP; simp

set_option maxHeartbeats 2000000 in
theorem writeP_good (p : PkD) (tc : List Value) (bv : Value) (tz : Bool) (hz : tz = true ↔ p.tx = txN) (w : World) (hg : p.good) (hs : SeesPk w tc bv p) (hn : Nam w) (hp : PNam w) (hc : chkP p tz = true) :
    Calls Tryz.prog 7 #[.agg (pkL p tc bv).toArray] w fun r w' => ∃ v, r = .returned (.tuple #[v, .int .i64 0]) ∧ Owns w' w.heap.size v (pkB p) ∧ Below w.heap.size w w' := by
  have HX : Hid (p.good ∧ (tz = true ↔ p.tx = txN) ∧ (∀ j ∈ fldsP p, rgB j p = true) ∧ Byts (bodyP p) ∧ (bodyP p).length ≤ 100000) := ⟨hg, hz, chk_all hc, body_byts p hg hs.byt (chk_all hc), body_len p (chk_all hc)⟩
  have q32 := pkSz p tc bv hs.tx.len
  obtain ⟨W, hW⟩ : ∃ W, W = w.alloc (.cells (pkL p tc bv).toArray 39) := ⟨_, rfl⟩
  have HW : Hid (PkH w p tc bv W) := by rw [hW]; exact PkH.box hs hn hp
  have HA : Hid _ := hW
  have HC : Hid _ := hc
  clear hW hs hn hp hg hz hc
  have hrow := HW.out.at_
  unfold PkAt at hrow
  go_enter Tryz.func7, Tryz.ntmps7
  go_upto_region 1 with fail
  rw [← HA.out]
  clear HA
  go_wp2_with (refine wpList_load_row rfl 39 _ rfl w.heap.size rfl 39 _ (0, 0) _ hrow Tryz.underlying39 rfl q32 ?_)
  refine (checkP_any p tc bv tz HX.out.2.1 _ HX.out.1 HW.out.pk HW.out.nam HW.out.pnam).mono ?_
  rintro _ w1 ⟨rfl, b1⟩
  rw [HC.out]
  have H1 : Hid (PkH w p tc bv w1) := HW.out.later b1
  clear b1 HW hrow
  have hrow := H1.out.at_
  unfold PkAt at hrow
  go_wp2_with (refine wpList_load_row rfl 39 _ rfl w.heap.size rfl 39 _ (0, 0) _ hrow Tryz.underlying39 rfl q32 ?_)
  refine (laid_any p tc bv _ HX.out.1 H1.out.pk H1.out.nam H1.out.pnam HX.out.2.2.1).mono ?_
  rintro _ w2 ⟨u, rfl, ho, b2⟩
  obtain ⟨V, hV⟩ : ∃ V, V = w2.alloc (.cells #[.slice none 0 0] 73) := ⟨_, rfl⟩
  have H2 : Hid (Below w.heap.size w V ∧ Sees V u (bodyP p) ∧ IsW V w2.heap.size (.slice none 0 0) [] ∧ w.heap.size ≤ w2.heap.size ∧ ∀ k, u.ownBlock = some k → k < w2.heap.size) := by
    have hb2 : Below w.heap.size w w2 := H1.out.bel.trans (b2.mono H1.out.bel.size)
    rw [hV]
    exact ⟨hb2.alloc hb2.size _, (Sees.own ho).below (one_alloc _ _) (Nat.le_refl _), ⟨heap_alloc_new _ _, World.ownsRow_nil _ _ _ _⟩, hb2.size, fun k hk => (ho.lt k hk).2⟩
  obtain ⟨u0, u1, u2, rfl⟩ := sees_form H2.out.2.1
  have HV : Hid _ := hV
  clear hV ho b2 H1 hrow
  go_upto_region 6 with fail
  rw [← HV.out]
  clear HV
  go_wp2_with fail
  refine (packSum_any _ _ _ H2.out.2.1 HX.out.2.2.2.1).mono ?_
  rintro _ _ ⟨rfl, rfl⟩
  have had := adler_bd (bodyP p)
  go_wp2_with fail
  refine (wUint32_any _ _ [] _ _ H2.out.2.2.1 had.1 had.2 (by simp)).mono ?_
  rintro _ w4 ⟨rfl, v4, hw4, hn4, hk4⟩
  have H4 : Hid (Below w.heap.size w w4 ∧ Sees w4 (.slice u0 u1 u2) (bodyP p) ∧ IsW w4 w2.heap.size v4 (be4 (adler (bodyP p)))) := by
    refine ⟨H2.out.1.trans (hk4.below H2.out.1.size (fun k e => ?_)), H2.out.2.1.kept hk4 (fun k hk e => ?_), by simpa using hw4⟩
    · have := H2.out.2.2.2.1
      rcases e with e | e
      · omega
      · simp [Value.ownBlock] at e
    · have := H2.out.2.2.2.2 k hk
      rcases e with e | e
      · omega
      · simp [Value.ownBlock] at e
  have HN4 : Hid (∀ k, v4.ownBlock = some k → w2.heap.size ≤ k) := fun k hk => by
    rcases hn4 with e | ⟨q, e, hq⟩
    · rw [hk] at e; simp [Value.ownBlock] at e
    · rw [hk] at e; simp at e; have := lt_of_block H2.out.2.2.1.1; omega
  have HS2 : Hid (w.heap.size ≤ w2.heap.size) := H2.out.2.2.2.1
  clear hw4 hn4 hk4 H2 had
  go_wp2_with fail
  refine (wRaw_any _ v4 _ _ _ _ H4.out.2.2 H4.out.2.1 (by have := HX.out.2.2.2.2; simp [be4]; omega)).mono ?_
  rintro _ w5 ⟨rfl, v5, hw5, hn5, hk5⟩
  have H5 : Hid (Below w.heap.size w w5 ∧ IsW w5 w2.heap.size v5 (pkB p)) := by
    refine ⟨H4.out.1.trans (hk5.below H4.out.1.size (fun k e => ?_)), hw5⟩
    have := HS2.out
    rcases e with e | e
    · omega
    · have := HN4.out k e; omega
  clear hw5 hn5 hk5 H4
  go_wp2_with fail
  refine (wBytes_any _ v5 _ _ H5.out.2 (by have := HX.out.2.2.2.2; rw [pkB_len]; omega)).mono ?_
  rintro _ w6 ⟨x, rfl, ho, b6⟩
  have HF : Hid (Owns w6 w.heap.size x (pkB p) ∧ Below w.heap.size w w6) := ⟨World.ownsRow.mono ho H5.out.1.size, H5.out.1.trans (b6.mono H5.out.1.size)⟩
  clear ho b6 H5
  go_wp2_with fail
  go_ret2
  exact ⟨_, rfl, HF.out.1, HF.out.2⟩
end Go.Proofs.YtldcbabgommghaaGreatDoor

/- A Reader at bytes that a Writer laid: each call tells what was written, and leaves the rest. getId and getEntry of package txn. -/
namespace Go.Proofs.YtldcbabgommghaaGreatDoor
open Go.RowKit
set_option maxRecDepth 8000

theorem bk_num4 (n : Int) : num (be4 n) = n := by
  simp only [num, be4, List.foldl_cons, List.foldl_nil]
  omega
theorem bk_num8 (n : Int) : num (be8 n) = n := by
  simp only [num, be8, be4, List.cons_append, List.nil_append, List.foldl_cons, List.foldl_nil]
  omega
theorem bk_txt (s : ByteArray) : strOfNums (txt s) = s := by
  unfold strOfNums txt
  rw [List.map_map]
  have : ((fun n : Int => UInt8.ofNat n.toNat) ∘ fun b : UInt8 => (b.toNat : Int)) = id := by
    funext b
    simp
  rw [this]
  simp
theorem bk_take {a b : List Int} {n : Nat} (h : a.length = n) : (a ++ b).take n = a := by rw [← h]; simp
theorem bk_drop {a b : List Int} {n : Nat} (h : a.length = n) : (a ++ b).drop n = b := by rw [← h]; simp
theorem bk_rdNum {n : Nat} {a b : List Int} (h : a.length = n) : rdNum n (a ++ b) 0 = ⟨num a, b, 0⟩ := by
  unfold rdNum
  rw [if_neg (by simp), if_neg (by rw [List.length_append]; omega), bk_take h, bk_drop h]
theorem bk_ahead {n : Nat} {b : List Int} (hn : n ≤ 2147483647) : ahead (be4 n ++ b) = n := by
  unfold ahead
  rw [bk_take (n := 4) rfl, bk_num4]
  unfold wrap32
  omega
theorem bk_rdBuf {most : Int} {ys b : List Int} (hl : ys.length ≤ 2147483647) (hm : (ys.length : Int) ≤ most) : rdBuf most ((be4 ys.length ++ ys) ++ b) 0 = (ys, ⟨0, b, 0⟩) := by
  have e5 : ((be4 ys.length ++ ys) ++ b).drop 4 = ys ++ b := by rw [List.append_assoc]; exact bk_drop rfl
  have ha : ahead ((be4 ys.length ++ ys) ++ b) = ys.length := by rw [List.append_assoc]; exact bk_ahead hl
  have hlen : ((be4 ys.length ++ ys) ++ b).length = 4 + ys.length + b.length := by rw [List.length_append, List.length_append]; rfl
  unfold rdBuf
  rw [if_neg (by simp), if_neg (by omega), ha, if_neg (by omega), if_neg (by rw [hlen]; omega), e5, Int.toNat_natCast, bk_take rfl, bk_drop rfl]

theorem Byts.right {a b : List Int} (h : Byts (a ++ b)) : Byts b := fun x hx => h x (List.mem_append.2 (.inr hx))

section
variable {g : Nat} {v : Value} {rest : List Int} {w : World}

theorem gI8 (x : Int) (h : IsR w g v ([x % 256] ++ rest) 0) (hb : Byts ([x % 256] ++ rest)) (h0 : -128 ≤ x) (h1 : x ≤ 127) :
    Calls Tryz.prog 57 #[.pointer (some ⟨g, 0, none⟩)] w fun e w' => e = .returned (.int .i8 x) ∧ ReadsTo w g v ⟨0, rest, 0⟩ w' := by
  refine (rInt8_any g v _ 0 w h hb).mono ?_
  rintro e w' ⟨rfl, hr⟩
  rw [bk_rdNum (n := 1) rfl] at hr ⊢
  have hw : IntKind.i8.wrap (num [x % 256]) = x := by
    have : num [x % 256] = x % 256 := by simp [num]
    rw [this]
    simp [IntKind.wrap, IntKind.bits, IntKind.signed]
    omega
  exact ⟨by simp only [hw], hr⟩

theorem gU32 (x : Int) (h : IsR w g v (be4 x ++ rest) 0) (hb : Byts (be4 x ++ rest)) :
    Calls Tryz.prog 56 #[.pointer (some ⟨g, 0, none⟩)] w fun e w' => e = .returned (.int .u32 x) ∧ ReadsTo w g v ⟨0, rest, 0⟩ w' := by
  refine (rUint32_any g v _ 0 w h hb).mono ?_
  rintro e w' ⟨rfl, hr⟩
  rw [bk_rdNum (n := 4) rfl] at hr ⊢
  exact ⟨by simp only [bk_num4], hr⟩

theorem gI32 (x : Int) (h : IsR w g v (be4 (up32 x) ++ rest) 0) (hb : Byts (be4 (up32 x) ++ rest)) (h0 : -2147483648 ≤ x) (h1 : x ≤ 2147483647) :
    Calls Tryz.prog 159 #[.pointer (some ⟨g, 0, none⟩)] w fun e w' => e = .returned (.int .i32 x) ∧ ReadsTo w g v ⟨0, rest, 0⟩ w' := by
  refine (rInt32_any g v _ 0 w h hb).mono ?_
  rintro e w' ⟨rfl, hr⟩
  rw [bk_rdNum (n := 4) rfl] at hr ⊢
  have hw : down32 (num (be4 (up32 x))) = x := by
    rw [bk_num4, down32_is _ (by unfold up32; omega) (by unfold up32; omega)]
    unfold up32
    split <;> omega
  exact ⟨by simp only [hw], hr⟩

theorem gI64 (x : Int) (h : IsR w g v (be8 (up64 x) ++ rest) 0) (hb : Byts (be8 (up64 x) ++ rest)) (h0 : -9223372036854775808 ≤ x) (h1 : x ≤ 9223372036854775807) :
    Calls Tryz.prog 87 #[.pointer (some ⟨g, 0, none⟩)] w fun e w' => e = .returned (.int .i64 x) ∧ ReadsTo w g v ⟨0, rest, 0⟩ w' := by
  refine (rInt64_any g v _ 0 w h hb).mono ?_
  rintro e w' ⟨rfl, hr⟩
  rw [bk_rdNum (n := 8) rfl] at hr ⊢
  have hw : wrap64 (num (be8 (up64 x))) = x := by
    rw [bk_num8]
    unfold wrap64 up64
    omega
  exact ⟨by simp only [hw], hr⟩

theorem gBool (b : Bool) (h : IsR w g v ([b2i b] ++ rest) 0) (hb : Byts ([b2i b] ++ rest)) :
    Calls Tryz.prog 105 #[.pointer (some ⟨g, 0, none⟩)] w fun e w' => e = .returned (.bool b) ∧ ReadsTo w g v ⟨0, rest, 0⟩ w' := by
  refine (rBool_any g v _ 0 w h hb).mono ?_
  rintro e w' ⟨rfl, hr⟩
  have e1 : rdBool ([b2i b] ++ rest) 0 = ⟨b2i b, rest, 0⟩ := by cases b <;> simp [rdBool, b2i]
  rw [e1] at hr ⊢
  exact ⟨by cases b <;> rfl, hr⟩

theorem gText (s : ByteArray) (most : Int) (h : IsR w g v (txtB s ++ rest) 0) (hb : Byts (txtB s ++ rest)) (hl : s.size ≤ 2147483647) (hm : (s.size : Int) ≤ most) :
    Calls Tryz.prog 155 #[.pointer (some ⟨g, 0, none⟩), .int .i64 most] w fun e w' => e = .returned (.string s) ∧ ReadsTo w g v ⟨0, rest, 0⟩ w' := by
  refine (rText_any g v _ 0 w most h hb).mono ?_
  rintro e w' ⟨rfl, hr⟩
  have e1 : rdBuf most (txtB s ++ rest) 0 = (txt s, ⟨0, rest, 0⟩) := bk_rdBuf (by rw [txt_len]; exact hl) (by rw [txt_len]; exact hm)
  rw [e1] at hr ⊢
  exact ⟨by simp only [bk_txt], hr⟩

theorem gBuf (ys : List Int) (most : Int) (h : IsR w g v ((be4 ys.length ++ ys) ++ rest) 0) (hb : Byts ((be4 ys.length ++ ys) ++ rest)) (hl : ys.length ≤ 2147483647) (hm : (ys.length : Int) ≤ most) :
    Calls Tryz.prog 115 #[.pointer (some ⟨g, 0, none⟩), .int .i64 most] w fun e w' => ∃ u, e = .returned u ∧ Cut w' v u ys ∧ ReadsTo w g v ⟨0, rest, 0⟩ w' := by
  refine (rBuffer_any g v _ 0 w most h hb).mono ?_
  rintro e w' ⟨u, rfl, hc, hr⟩
  rw [bk_rdBuf hl hm] at hc hr
  exact ⟨u, rfl, hc, hr⟩

/-- Two readings, one behind the other. -/
theorem ReadsTo.next {w1 w2 : World} {v1 : Value} {ys : List Int} (h1 : Kept w w1 (· = g)) (hv : ∀ k, v1.ownBlock = some k → v.ownBlock = some k) (h : ReadsTo w1 g v1 ⟨0, ys, 0⟩ w2) : ReadsTo w g v ⟨0, ys, 0⟩ w2 := by
  obtain ⟨v2, a, b, c⟩ := h
  exact ⟨v2, a, fun k e => hv k (b k e), h1.trans c (fun _ _ h => h)⟩

end
end Go.Proofs.YtldcbabgommghaaGreatDoor
