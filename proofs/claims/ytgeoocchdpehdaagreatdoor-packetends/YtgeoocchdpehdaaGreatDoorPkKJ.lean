import Derived.Test.YtgeoocchdpehdaaGreatDoorRqLJ
import Derived.Test.YtgeoocchdpehdaaGreatDoorWfKJ
namespace Go.Proofs.YtgeoocchdpehdaaGreatDoor
open Go.RowKit
set_option maxRecDepth 8000

def fdB (j : Nat) (p : PkD) : List Int := match j with
  | 0 => be4 p.cb ++ be4 p.ct | 1 => be4 p.lb ++ be4 p.lt | 2 => be8 (up64 p.place) | 3 => be4 p.ep | 4 => be4 p.cur | 5 => be4 p.ze ++ be4 p.zn | 6 => be4 p.pe ++ be4 p.pn
  | 7 => [b2i p.cnt] | 8 => [b2i p.fin] | 9 => be4 (txB p.tx).length ++ txB p.tx | 10 => be4 p.bys.length ++ p.bys | _ => be8 (up64 p.ses)

set_option maxHeartbeats 400000 in
theorem putPair_any (g : Nat) (v : Value) (xs : List Int) (a b : Int) (w : World) (h : IsW w g v xs) (a0 : 0 ≤ a) (a1 : a ≤ 4294967295) (b0 : 0 ≤ b) (b1 : b ≤ 4294967295) (hb : xs.length ≤ 100000) :
    Calls Tryz.prog 60 #[.pointer (some ⟨g, 0, none⟩), .int .u32 a, .int .u32 b] w fun e w' => e = .returned (.tuple #[]) ∧ Puts w g v (xs ++ (be4 a ++ be4 b)) w' := by
  have HV : Hid (IsW w g v xs) := h
  clear h
  go_enter Tryz.func60, Tryz.ntmps60
  go_wp2_with fail
  refine (wUint32_any g v xs a _ HV.out a0 (by omega) (by omega)).mono ?_
  rintro e w1 ⟨rfl, hp⟩
  obtain ⟨v1, hW, hN, hK⟩ := hp
  have HW : Hid (IsW w1 g v1 (xs ++ be4 a) ∧ NewRow w v v1 ∧ Kept w w1 (fun k => k = g ∨ v.ownBlock = some k)) := ⟨hW, hN, hK⟩
  clear hW hN hK
  go_wp2_with fail
  refine (wUint32_any g v1 _ b _ HW.out.1 b0 (by omega) (by simp [be4]; omega)).mono ?_
  rintro e w2 ⟨rfl, hp2⟩
  have HP : Hid (Puts w g v (xs ++ (be4 a ++ be4 b)) w2) := by
    have := Puts.next HW.out.2.1 HW.out.2.2 hp2
    rw [List.append_assoc] at this
    exact this
  clear hp2 HW
  go_wp2
  go_end0
  exact ⟨rfl, HP.out⟩

section
variable (p : PkD) (tc : List Value) (bv : Value) (g : Nat) (v : Value) (xs : List Int) (w : World)

set_option maxHeartbeats 400000 in
theorem ptConn (h : IsW w g v xs) (hb : xs.length ≤ 100000) (hg : p.good) : Calls Tryz.prog 59 #[.pointer (some ⟨g, 0, none⟩), .agg (pkL p tc bv).toArray] w fun e w' => e = .returned (.tuple #[]) ∧ Puts w g v (xs ++ fdB 0 p) w' := by
  obtain ⟨W, HE, HW⟩ := pk_box p tc bv w
  have HI : Hid (IsW W g v xs) := by rw [HE.out]; exact h.alloc _
  have c1 : W.cell? ⟨w.heap.size, 1, none⟩ = some (.int .u32 p.cb) := pk_at HW.out.2 rfl
  have c2 : W.cell? ⟨w.heap.size, 2, none⟩ = some (.int .u32 p.ct) := pk_at HW.out.2 rfl
  clear h
  go_enter Tryz.func59, Tryz.ntmps59
  go_upto_region 1 with fail
  rw [← HE.out]
  go_wp2_with fail
  refine (putPair_any g v xs _ _ _ HI.out hg.cb0 hg.cb1 hg.ct0 hg.ct1 hb).mono ?_
  rintro _ w1 ⟨rfl, hp⟩
  have HP : Hid (Puts w g v (xs ++ fdB 0 p) w1) := by rw [HE.out] at hp; exact hp.of_alloc
  clear hp HE c1 c2
  go_wp2_with fail
  go_end0
  exact ⟨rfl, HP.out⟩

set_option maxHeartbeats 400000 in
theorem ptLead (h : IsW w g v xs) (hb : xs.length ≤ 100000) (hg : p.good) : Calls Tryz.prog 64 #[.pointer (some ⟨g, 0, none⟩), .agg (pkL p tc bv).toArray] w fun e w' => e = .returned (.tuple #[]) ∧ Puts w g v (xs ++ fdB 1 p) w' := by
  obtain ⟨W, HE, HW⟩ := pk_box p tc bv w
  have HI : Hid (IsW W g v xs) := by rw [HE.out]; exact h.alloc _
  have c3 : W.cell? ⟨w.heap.size, 3, none⟩ = some (.int .u32 p.lb) := pk_at HW.out.2 rfl
  have c4 : W.cell? ⟨w.heap.size, 4, none⟩ = some (.int .u32 p.lt) := pk_at HW.out.2 rfl
  clear h
  go_enter Tryz.func64, Tryz.ntmps64
  go_upto_region 1 with fail
  rw [← HE.out]
  go_wp2_with fail
  refine (putPair_any g v xs _ _ _ HI.out hg.lb0 hg.lb1 hg.lt0 hg.lt1 hb).mono ?_
  rintro _ w1 ⟨rfl, hp⟩
  have HP : Hid (Puts w g v (xs ++ fdB 1 p) w1) := by rw [HE.out] at hp; exact hp.of_alloc
  clear hp HE c3 c4
  go_wp2_with fail
  go_end0
  exact ⟨rfl, HP.out⟩

set_option maxHeartbeats 400000 in
theorem ptPlace (h : IsW w g v xs) (hb : xs.length ≤ 100000) : Calls Tryz.prog 67 #[.pointer (some ⟨g, 0, none⟩), .agg (pkL p tc bv).toArray] w fun e w' => e = .returned (.tuple #[]) ∧ Puts w g v (xs ++ fdB 2 p) w' := by
  obtain ⟨W, HE, HW⟩ := pk_box p tc bv w
  have HI : Hid (IsW W g v xs) := by rw [HE.out]; exact h.alloc _
  have c5 : W.cell? ⟨w.heap.size, 5, none⟩ = some (.int .i64 p.place) := pk_at HW.out.2 rfl
  clear h
  go_enter Tryz.func67, Tryz.ntmps67
  go_upto_region 1 with fail
  rw [← HE.out]
  go_wp2_with fail
  refine (wInt64_any g v xs _ _ HI.out (by omega)).mono ?_
  rintro _ w1 ⟨rfl, hp⟩
  have HP : Hid (Puts w g v (xs ++ fdB 2 p) w1) := by rw [HE.out] at hp; exact hp.of_alloc
  clear hp HE c5
  go_wp2_with fail
  go_end0
  exact ⟨rfl, HP.out⟩

set_option maxHeartbeats 400000 in
theorem ptEpoch (h : IsW w g v xs) (hb : xs.length ≤ 100000) (hg : p.good) : Calls Tryz.prog 72 #[.pointer (some ⟨g, 0, none⟩), .agg (pkL p tc bv).toArray] w fun e w' => e = .returned (.tuple #[]) ∧ Puts w g v (xs ++ fdB 3 p) w' := by
  obtain ⟨W, HE, HW⟩ := pk_box p tc bv w
  have HI : Hid (IsW W g v xs) := by rw [HE.out]; exact h.alloc _
  have c6 : W.cell? ⟨w.heap.size, 6, none⟩ = some (.int .u32 p.ep) := pk_at HW.out.2 rfl
  clear h
  go_enter Tryz.func72, Tryz.ntmps72
  go_upto_region 1 with fail
  rw [← HE.out]
  go_wp2_with fail
  refine (wUint32_any g v xs _ _ HI.out hg.ep0 (by have := hg.ep1; omega) (by omega)).mono ?_
  rintro _ w1 ⟨rfl, hp⟩
  have HP : Hid (Puts w g v (xs ++ fdB 3 p) w1) := by rw [HE.out] at hp; exact hp.of_alloc
  clear hp HE c6
  go_wp2_with fail
  go_end0
  exact ⟨rfl, HP.out⟩

set_option maxHeartbeats 400000 in
theorem ptCur (h : IsW w g v xs) (hb : xs.length ≤ 100000) (hg : p.good) : Calls Tryz.prog 75 #[.pointer (some ⟨g, 0, none⟩), .agg (pkL p tc bv).toArray] w fun e w' => e = .returned (.tuple #[]) ∧ Puts w g v (xs ++ fdB 4 p) w' := by
  obtain ⟨W, HE, HW⟩ := pk_box p tc bv w
  have HI : Hid (IsW W g v xs) := by rw [HE.out]; exact h.alloc _
  have c7 : W.cell? ⟨w.heap.size, 7, none⟩ = some (.int .u32 p.cur) := pk_at HW.out.2 rfl
  clear h
  go_enter Tryz.func75, Tryz.ntmps75
  go_upto_region 1 with fail
  rw [← HE.out]
  go_wp2_with fail
  refine (wUint32_any g v xs _ _ HI.out hg.cu0 (by have := hg.cu1; omega) (by omega)).mono ?_
  rintro _ w1 ⟨rfl, hp⟩
  have HP : Hid (Puts w g v (xs ++ fdB 4 p) w1) := by rw [HE.out] at hp; exact hp.of_alloc
  clear hp HE c7
  go_wp2_with fail
  go_end0
  exact ⟨rfl, HP.out⟩

set_option maxHeartbeats 400000 in
theorem ptZxid (h : IsW w g v xs) (hb : xs.length ≤ 100000) (hg : p.good) : Calls Tryz.prog 78 #[.pointer (some ⟨g, 0, none⟩), .agg (pkL p tc bv).toArray] w fun e w' => e = .returned (.tuple #[]) ∧ Puts w g v (xs ++ fdB 5 p) w' := by
  obtain ⟨W, HE, HW⟩ := pk_box p tc bv w
  have HI : Hid (IsW W g v xs) := by rw [HE.out]; exact h.alloc _
  have c8 : W.cell? ⟨w.heap.size, 8, none⟩ = some (.int .u32 p.ze) := pk_at HW.out.2 rfl
  have c9 : W.cell? ⟨w.heap.size, 9, none⟩ = some (.int .u32 p.zn) := pk_at HW.out.2 rfl
  clear h
  go_enter Tryz.func78, Tryz.ntmps78
  go_upto_region 1 with fail
  rw [← HE.out]
  go_wp2_with fail
  refine (putPair_any g v xs _ _ _ HI.out hg.ze0 hg.ze1 hg.zn0 hg.zn1 hb).mono ?_
  rintro _ w1 ⟨rfl, hp⟩
  have HP : Hid (Puts w g v (xs ++ fdB 5 p) w1) := by rw [HE.out] at hp; exact hp.of_alloc
  clear hp HE c8 c9
  go_wp2_with fail
  go_end0
  exact ⟨rfl, HP.out⟩

set_option maxHeartbeats 400000 in
theorem ptPrev (h : IsW w g v xs) (hb : xs.length ≤ 100000) (hg : p.good) : Calls Tryz.prog 82 #[.pointer (some ⟨g, 0, none⟩), .agg (pkL p tc bv).toArray] w fun e w' => e = .returned (.tuple #[]) ∧ Puts w g v (xs ++ fdB 6 p) w' := by
  obtain ⟨W, HE, HW⟩ := pk_box p tc bv w
  have HI : Hid (IsW W g v xs) := by rw [HE.out]; exact h.alloc _
  have c10 : W.cell? ⟨w.heap.size, 10, none⟩ = some (.int .u32 p.pe) := pk_at HW.out.2 rfl
  have c11 : W.cell? ⟨w.heap.size, 11, none⟩ = some (.int .u32 p.pn) := pk_at HW.out.2 rfl
  clear h
  go_enter Tryz.func82, Tryz.ntmps82
  go_upto_region 1 with fail
  rw [← HE.out]
  go_wp2_with fail
  refine (putPair_any g v xs _ _ _ HI.out hg.pe0 hg.pe1 hg.pn0 hg.pn1 hb).mono ?_
  rintro _ w1 ⟨rfl, hp⟩
  have HP : Hid (Puts w g v (xs ++ fdB 6 p) w1) := by rw [HE.out] at hp; exact hp.of_alloc
  clear hp HE c10 c11
  go_wp2_with fail
  go_end0
  exact ⟨rfl, HP.out⟩

set_option maxHeartbeats 400000 in
theorem ptCnt (h : IsW w g v xs) (hb : xs.length ≤ 100000) : Calls Tryz.prog 85 #[.pointer (some ⟨g, 0, none⟩), .agg (pkL p tc bv).toArray] w fun e w' => e = .returned (.tuple #[]) ∧ Puts w g v (xs ++ fdB 7 p) w' := by
  obtain ⟨W, HE, HW⟩ := pk_box p tc bv w
  have HI : Hid (IsW W g v xs) := by rw [HE.out]; exact h.alloc _
  have c12 : W.cell? ⟨w.heap.size, 12, none⟩ = some (.bool p.cnt) := pk_at HW.out.2 rfl
  clear h
  go_enter Tryz.func85, Tryz.ntmps85
  go_upto_region 1 with fail
  rw [← HE.out]
  go_wp2_with fail
  refine (wBool_any g v xs _ _ HI.out (by omega)).mono ?_
  rintro _ w1 ⟨rfl, hp⟩
  have HP : Hid (Puts w g v (xs ++ fdB 7 p) w1) := by rw [HE.out] at hp; exact hp.of_alloc
  clear hp HE c12
  go_wp2_with fail
  go_end0
  exact ⟨rfl, HP.out⟩

set_option maxHeartbeats 400000 in
theorem ptFin (h : IsW w g v xs) (hb : xs.length ≤ 100000) : Calls Tryz.prog 89 #[.pointer (some ⟨g, 0, none⟩), .agg (pkL p tc bv).toArray] w fun e w' => e = .returned (.tuple #[]) ∧ Puts w g v (xs ++ fdB 8 p) w' := by
  obtain ⟨W, HE, HW⟩ := pk_box p tc bv w
  have HI : Hid (IsW W g v xs) := by rw [HE.out]; exact h.alloc _
  have c13 : W.cell? ⟨w.heap.size, 13, none⟩ = some (.bool p.fin) := pk_at HW.out.2 rfl
  clear h
  go_enter Tryz.func89, Tryz.ntmps89
  go_upto_region 1 with fail
  rw [← HE.out]
  go_wp2_with fail
  refine (wBool_any g v xs _ _ HI.out (by omega)).mono ?_
  rintro _ w1 ⟨rfl, hp⟩
  have HP : Hid (Puts w g v (xs ++ fdB 8 p) w1) := by rw [HE.out] at hp; exact hp.of_alloc
  clear hp HE c13
  go_wp2_with fail
  go_end0
  exact ⟨rfl, HP.out⟩

set_option maxHeartbeats 400000 in
theorem ptBytes (h : IsW w g v xs) (hb : xs.length ≤ 100000) (hs : SeesPk w tc bv p) (hl : p.bys.length ≤ 4096) (hap : ∀ k, liveB bv = some k → k ≠ g ∧ v.ownBlock ≠ some k) : Calls Tryz.prog 95 #[.pointer (some ⟨g, 0, none⟩), .agg (pkL p tc bv).toArray] w fun e w' => e = .returned (.tuple #[]) ∧ Puts w g v (xs ++ fdB 10 p) w' := by
  obtain ⟨W, HE, HW⟩ := pk_box p tc bv w
  have HI : Hid (IsW W g v xs ∧ Sees W bv p.bys ∧ ∀ k, liveB bv = some k → k ≠ g ∧ v.ownBlock ≠ some k) := ⟨by rw [HE.out]; exact h.alloc _, hs.bys.below HW.out.1 (Nat.le_refl _), hap⟩
  have c30 := (HW.out.2.tail hs.tx.len).2.1
  clear h hs hap
  go_enter Tryz.func95, Tryz.ntmps95
  go_upto_region 1 with fail
  rw [← HE.out]
  go_wp2_with fail
  refine (wBuffer_any g v bv xs p.bys _ HI.out.1 HI.out.2.1 HI.out.2.2 (by omega) (by omega)).mono ?_
  rintro _ w1 ⟨rfl, hp⟩
  have HP : Hid (Puts w g v (xs ++ fdB 10 p) w1) := by rw [HE.out] at hp; exact hp.of_alloc
  clear hp HE c30
  go_wp2_with fail
  go_end0
  exact ⟨rfl, HP.out⟩

set_option maxHeartbeats 400000 in
theorem ptSes (h : IsW w g v xs) (hb : xs.length ≤ 100000) (hs : SeesPk w tc bv p) : Calls Tryz.prog 100 #[.pointer (some ⟨g, 0, none⟩), .agg (pkL p tc bv).toArray] w fun e w' => e = .returned (.tuple #[]) ∧ Puts w g v (xs ++ fdB 11 p) w' := by
  obtain ⟨W, HE, HW⟩ := pk_box p tc bv w
  have HI : Hid (IsW W g v xs) := by rw [HE.out]; exact h.alloc _
  have c31 := (HW.out.2.tail hs.tx.len).2.2
  clear h hs
  go_enter Tryz.func100, Tryz.ntmps100
  go_upto_region 1 with fail
  rw [← HE.out]
  go_wp2_with fail
  refine (wInt64_any g v xs _ _ HI.out (by omega)).mono ?_
  rintro _ w1 ⟨rfl, hp⟩
  have HP : Hid (Puts w g v (xs ++ fdB 11 p) w1) := by rw [HE.out] at hp; exact hp.of_alloc
  clear hp HE c31
  go_wp2_with fail
  go_end0
  exact ⟨rfl, HP.out⟩

set_option maxHeartbeats 1000000 in
theorem ptTxn (h : IsW w g v xs) (hb : xs.length ≤ 100000) (hg : p.good) (hs : SeesPk w tc bv p) (hn : Nam w) (hok : txOk p.tx = true) : Calls Tryz.prog 92 #[.pointer (some ⟨g, 0, none⟩), .agg (pkL p tc bv).toArray] w fun e w' => e = .returned (.tuple #[]) ∧ Puts w g v (xs ++ fdB 9 p) w' := by
  obtain ⟨W, HE, HW⟩ := pk_box p tc bv w
  have HI : Hid (IsW W g v xs ∧ SeesTx W tc p.tx ∧ Nam W ∧ p.good ∧ txOk p.tx = true ∧ (txB p.tx).length ≤ 4096) := ⟨by rw [HE.out]; exact h.alloc _, hs.tx.below HW.out.1 (Nat.le_refl _), hn.below HW.out.1 hn.lt, hg, hok, txB_t p.tx hok⟩
  have l14 := (HW.out.2.tail hs.tx.len).1
  have q16 : (Tryz.prog.info? 37).map (·.size) = some tc.length := by rw [hs.tx.len]; exact txSz
  have HWR : Hid (∀ u : World, u = W → Calls Tryz.prog 117 #[.agg tc.toArray] u fun r w' => ∃ v, r = .returned (.tuple #[v, .int .i64 0]) ∧ Owns w' u.heap.size v (txB p.tx) ∧ Below u.heap.size u w') := fun u e => by
    subst e
    obtain ⟨rc, e, hr⟩ := HI.out.2.1
    rw [e]
    exact write_good p.tx rc u hr.live hg.tx HI.out.2.2.1 hok
  clear h hg hs hn hok
  go_enter Tryz.func92, Tryz.ntmps92
  go_upto_region 1 with fail
  rw [← HE.out]
  go_wp2_with (refine wpList_load_mid rfl 37 _ rfl w.heap.size 14 rfl tc _ l14 Tryz.underlying37 rfl q16 ?_)
  clear l14
  refine (HWR.out W rfl).mono ?_
  rintro _ w1 ⟨u, rfl, ho, b1⟩
  have H1 : Hid (IsW w1 g v xs ∧ Sees w1 u (txB p.tx) ∧ (∀ k, liveB u = some k → k ≠ g ∧ v.ownBlock ≠ some k) ∧ Below W.heap.size W w1) := by
    have hlt := HI.out.1.lt
    refine ⟨HI.out.1.kept (Below.kept b1) (by omega) (fun k hk => by have := hlt.2 k hk; omega), Sees.own ho, fun k hk => ?_, b1⟩
    have := (ho.lt k (live_own hk)).1
    exact ⟨by omega, fun e => by have := hlt.2 k e; omega⟩
  clear ho b1
  obtain ⟨u0, u1, u2, rfl⟩ := sees_form H1.out.2.1
  go_wp2_with fail
  refine (wBuffer_any g v _ xs (txB p.tx) _ H1.out.1 H1.out.2.1 H1.out.2.2.1 (by have := HI.out.2.2.2.2.2; omega) (by have := HI.out.2.2.2.2.2; omega)).mono ?_
  rintro _ w2 ⟨rfl, hp⟩
  have HP : Hid (Puts w g v (xs ++ fdB 9 p) w2) := by
    have a := Puts.next (w := W) (.inl rfl) ((Below.kept H1.out.2.2.2).mono (fun k hk e => by omega)) hp
    rw [HE.out] at a
    exact a.of_alloc
  clear hp HE
  go_wp2_with fail
  go_end0
  exact ⟨rfl, HP.out⟩
end

theorem put_any (j : Nat) (p : PkD) (tc : List Value) (bv : Value) (g : Nat) (v : Value) (xs : List Int) (w : World) (h : IsW w g v xs) (hb : xs.length ≤ 100000) (hg : p.good) (hs : SeesPk w tc bv p) (hn : Nam w) (hr : rgB j p = true) (hap : ∀ k, liveB bv = some k → k ≠ g ∧ v.ownBlock ≠ some k) :
    Calls Tryz.prog (fPt j) #[.pointer (some ⟨g, 0, none⟩), .agg (pkL p tc bv).toArray] w fun e w' => e = .returned (.tuple #[]) ∧ Puts w g v (xs ++ fdB j p) w' := by
  match j with
  | 0 => exact ptConn p tc bv g v xs w h hb hg
  | 1 => exact ptLead p tc bv g v xs w h hb hg
  | 2 => exact ptPlace p tc bv g v xs w h hb
  | 3 => exact ptEpoch p tc bv g v xs w h hb hg
  | 4 => exact ptCur p tc bv g v xs w h hb hg
  | 5 => exact ptZxid p tc bv g v xs w h hb hg
  | 6 => exact ptPrev p tc bv g v xs w h hb hg
  | 7 => exact ptCnt p tc bv g v xs w h hb
  | 8 => exact ptFin p tc bv g v xs w h hb
  | 9 => exact ptTxn p tc bv g v xs w h hb hg hs hn (by have h : txB15 p = true := hr; unfold txB15 at h; rw [Bool.and_eq_true] at h; exact h.1)
  | 10 => exact ptBytes p tc bv g v xs w h hb hs (by have h : decide (1 ≤ p.bys.length ∧ p.bys.length ≤ 4096) = true := hr; exact (of_decide_eq_true h).2) hap
  | _ + 11 => exact ptSes p tc bv g v xs w h hb hs
end Go.Proofs.YtgeoocchdpehdaaGreatDoor
