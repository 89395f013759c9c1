import Derived.Test.YtgeoocchdpehdaaGreatDoorPlOJ
import Derived.Test.YtgeoocchdpehdaaGreatDoorWdRJ
import Derived.Test.YtgeoocchdpehdaaGreatDoorPkUJ
import Derived.Test.YtgeoocchdpehdaaGreatDoorPkVJ
import Derived.Test.YtgeoocchdpehdaaGreatDoorPkBJ
namespace Go.Proofs.YtgeoocchdpehdaaGreatDoor
open Go.RowKit
set_option maxRecDepth 8000

theorem PkH.row {w W : World} {p : PkD} {tc : List Value} {bv : Value} (h : PkH w p tc bv W) : W.heap[w.heap.size]? = some (.cells (pkL p tc bv).toArray 39 (0, 0)) := h.at_

theorem owns_at15 {w : World} {B : Nat} {v : Value} {xs : List Int} (h : Owns w B v xs) (hx : xs ≠ []) : ∃ g c, v = .slice (some ⟨g, 0, none⟩) xs.length c := by
  rcases h.2 with ⟨_, h0⟩ | ⟨g, cap, cur, rfl, _⟩
  · exact absurd (List.eq_nil_of_length_eq_zero h0) hx
  · exact ⟨g, cap, rfl⟩

theorem owns_at15n {w : World} {B : Nat} {v : Value} {xs : List Int} (h : Owns w B v xs) (hx : xs ≠ []) : ∃ g n c, v = .slice (some ⟨g, 0, none⟩) n c := by
  obtain ⟨g, c, e⟩ := owns_at15 h hx
  exact ⟨g, _, c, e⟩

theorem owns_later15 {W W' : World} {B : Nat} {v : Value} {xs : List Int} (h : Owns W B v xs) (e : Below W.heap.size W W') : Owns W' B v xs :=
  Owns.kept h (Below.kept e) (fun k hk => by have := (h.lt k hk).2; omega)

structure EnS (w : World) (g cp : Nat) (xs : List Int) (v : Value) (ys : List Int) (W : World) : Prop where
  bel : Below w.heap.size w W
  nam : Nam W
  pnam : PNam W
  b : ∃ B, Owns W B (.slice (some ⟨g, 0, none⟩) xs.length cp) xs
  l : ∃ B, Owns W B v ys

theorem EnS.later {w W W' : World} {g cp : Nat} {xs : List Int} {v : Value} {ys : List Int} (h : EnS w g cp xs v ys W) (e : Below W.heap.size W W') : EnS w g cp xs v ys W' := by
  obtain ⟨h1, h2, h3, ⟨B, h4⟩, ⟨C, h5⟩⟩ := h
  exact ⟨h1.trans (e.mono h1.size), h2.below e h2.lt, h3.below e h3.lt, ⟨B, owns_later15 h4 e⟩, ⟨C, owns_later15 h5 e⟩⟩

set_option maxHeartbeats 8000000 in
theorem ends_walk15 (p : PkD) (tc : List Value) (bv : Value) (n : Int) (mv : Value) (ms : List Int) (w : World) (hn : Nam w) (hp : PNam w) (hg : p.good) (hs : SeesPk w tc bv p) (hm : Sees w mv ms) (hmb : Byts ms) :
    Calls Tryz.prog 3 #[.agg (pkL p tc bv).toArray, .int .i64 n, mv] w fun r w' => r = .returned (.bool true) ∧ Below w.heap.size w w' := by
  obtain ⟨tz, HZ⟩ : ∃ tz : Bool, Hid (tz = true ↔ p.tx = txN) := by
    by_cases h : p.tx = txN
    · exact ⟨true, fun _ => h, fun _ => rfl⟩
    · exact ⟨false, fun e => (by cases e), fun e => absurd e h⟩
  have q32 := pkSz p tc bv hs.tx.len
  obtain ⟨W, hW⟩ : ∃ W, W = w.alloc (.cells (pkL p tc bv).toArray 39) := ⟨_, rfl⟩
  have HW : Hid (PkH w p tc bv W) := by rw [hW]; exact PkH.box hs hn hp
  have HG : Hid (p.good ∧ Byts ms ∧ Byts p.bys) := ⟨hg, hmb, hs.byt⟩
  have HM : Hid (Sees w mv ms) := hm
  obtain ⟨m0, mc, rfl⟩ : ∃ ao cap, mv = .slice ao ms.length cap := by obtain ⟨ao, cap, h, _⟩ := hm; exact ⟨ao, cap, h⟩
  have hmc : mc ≤ 9223372036854775807 ∧ ms.length ≤ mc := by obtain ⟨ao, cap, h, q1, q2, _⟩ := hm; simp at h; obtain ⟨rfl, rfl⟩ := h; unfold maxLen at q2; exact ⟨q2, q1⟩
  obtain ⟨M, hM⟩ : ∃ M, M = ms.length := ⟨_, rfl⟩
  rw [← hM] at HM hmc ⊢
  obtain ⟨hmc1, hmc2⟩ := hmc
  have HML : Hid _ := hM
  have HA : Hid _ := hW
  have HNP : Hid (Nam w ∧ PNam w) := ⟨hn, hp⟩
  clear hW hs hn hp hg hm hmb hM
  go_enter Tryz.func3, Tryz.ntmps3
  go_upto_region 1 with fail
  rw [← HA.out]
  clear HA
  have r0 := HW.out.row
  go_wp2_with (refine wpList_load_row rfl 39 _ rfl w.heap.size rfl 39 _ (0, 0) _ r0 Tryz.underlying39 rfl q32 ?_)
  clear r0
  refine (large15 p tc bv W HG.out.1 HW.out.pk).mono ?_
  rintro _ w1 ⟨bl, rfl, e1⟩
  have H1 : Hid (PkH w p tc bv w1) := HW.out.later e1
  clear e1 HW
  cases bl
  rotate_left
  · go_wp2_with fail
    go_ret
    exact ⟨rfl, H1.out.bel⟩
  by_cases hbig : 536870911 < M
  · have hbig' : decide ((536870911 : Int) < (M : Int)) = true := decide_eq_true (by omega)
    go_wp2_with fail
    go_ret
    exact ⟨rfl, H1.out.bel⟩
  have hbig' : decide ((536870911 : Int) < (M : Int)) = false := decide_eq_false (by omega)
  go_wp2_with fail
  refine (lives15 _ H1.out.nam H1.out.pnam).mono ?_
  rintro _ w2 ⟨rfl, e2⟩
  have H2 : Hid (PkH w p tc bv w2) := H1.out.later e2
  clear e2 H1
  have r0 := H2.out.row
  go_wp2_with (refine wpList_load_row rfl 39 _ rfl w.heap.size rfl 39 _ (0, 0) _ r0 Tryz.underlying39 rfl q32 ?_)
  clear r0
  cases hc : chkP p tz with
  | false =>
    refine (writeP_no p tc bv tz HZ.out _ HG.out.1 H2.out.pk H2.out.nam H2.out.pnam hc).mono ?_
    rintro _ w3 ⟨rfl, e3⟩
    have H3 : Hid (PkH w p tc bv w3) := H2.out.later e3
    clear e3 H2
    have r0 := H3.out.row
    go_wp2_with (refine wpList_load_row rfl 39 _ rfl w.heap.size rfl 39 _ (0, 0) _ r0 Tryz.underlying39 rfl q32 ?_)
    clear r0
    refine (refChk15 p tc bv tz HZ.out _ HG.out.1 H3.out.pk).mono ?_
    rintro _ w4 ⟨rfl, e4⟩
    have H4 : Hid (PkH w p tc bv w4) := H3.out.later e4
    rw [← chk_doc HG.out.1, hc]
    clear e4 H3 hc
    go_wp2_with fail
    go_ret
    exact ⟨rfl, H4.out.bel⟩
  | true =>
  have HC : Hid _ := hc
  clear hc
  refine (writeP_good p tc bv tz HZ.out _ HG.out.1 H2.out.pk H2.out.nam H2.out.pnam HC.out).mono ?_
  rintro _ w3 ⟨v, rfl, ho, e3⟩
  have hpos : 4 < (pkB p).length := by have := body_pos p; rw [pkB_len]; omega
  have hle : (pkB p).length ≤ 8192 := by have := body_le HC.out; rw [pkB_len]; omega
  obtain ⟨g, cp, rfl⟩ := owns_at15 ho (fun e => by rw [e] at hpos; simp at hpos)
  have H3 : Hid (PkH w p tc bv w3 ∧ Owns w3 w2.heap.size (.slice (some ⟨g, 0, none⟩) (pkB p).length cp) (pkB p) ∧ w.heap.size < w2.heap.size) := ⟨H2.out.later e3, ho, H2.out.at_.lt⟩
  obtain ⟨L, hL⟩ : ∃ L, L = (pkB p).length := ⟨_, rfl⟩
  rw [← hL] at H3 hpos hle ⊢
  have HL : Hid _ := hL
  clear e3 H2 ho hL
  have r0 := H3.out.1.row
  go_wp2_with (refine wpList_load_row rfl 39 _ rfl w.heap.size rfl 39 _ (0, 0) _ r0 Tryz.underlying39 rfl q32 ?_)
  clear r0
  refine (refChk15 p tc bv tz HZ.out _ HG.out.1 H3.out.1.pk).mono ?_
  rintro _ w4 ⟨rfl, e4⟩
  have H4 : Hid (PkH w p tc bv w4 ∧ Owns w4 w2.heap.size (.slice (some ⟨g, 0, none⟩) L cp) (pkB p) ∧ w.heap.size < w2.heap.size) := ⟨H3.out.1.later e4, by have := H3.out.2.1; rw [HL.out] at this ⊢; exact Owns.kept this (Below.kept e4) (fun k hk => by have := (H3.out.2.1.lt k hk).2; omega), H3.out.2.2⟩
  rw [← chk_doc HG.out.1, HC.out]
  clear e4 H3
  have hcp : L ≤ cp ∧ cp ≤ 9223372036854775807 := by
    have := Sees.own (H4.out.2.1)
    obtain ⟨ao, cap, h, q1, q2, _⟩ := this
    simp at h
    obtain ⟨_, _, rfl⟩ := h
    unfold maxLen at q2
    rw [← HL.out] at q1
    exact ⟨q1, q2⟩
  obtain ⟨hcp1, hcp2⟩ := hcp
  have HGL : Hid (w.heap.size < g ∧ g < w4.heap.size) := by have := H4.out.2.1.lt g rfl; have := H4.out.2.2; show _ ∧ _; omega
  obtain ⟨B, HB⟩ : ∃ B : Bool, Hid (B = true ↔ (n < 0 ∨ (L : Int) ≤ n)) := ⟨decide (n < 0 ∨ (L : Int) ≤ n), by show _ ↔ _; simp⟩
  obtain ⟨k, HK⟩ : ∃ k : Nat, Hid (k < L ∧ (B = true → k + 1 = L) ∧ (B = false → n = k)) := by
    cases hB : B with
    | true => exact ⟨L - 1, by omega, fun _ => by omega, fun h => by cases h⟩
    | false =>
      have : ¬ (n < 0 ∨ (L : Int) ≤ n) := fun h => by rw [HB.out.2 h] at hB; cases hB
      exact ⟨n.toNat, by omega, fun h => (by cases h), fun _ => by omega⟩
  go_upto_region 9 with fail
  go_cut [48] from 41 to 47 (fun s wx => s = .bool B ∧ wx = w4)
  case first =>
    by_cases pl : n < 0
    · have pl' : decide (n < 0) = true := decide_eq_true pl
      obtain rfl : B = true := HB.out.2 (.inl pl)
      go_wp2_with fail
      go_meet
      case rel => exact ⟨rfl, rfl⟩
    have pl' : decide (n < 0) = false := decide_eq_false pl
    by_cases pu : (L : Int) ≤ n
    · have pu' : decide ((L : Int) ≤ n) = true := decide_eq_true pu
      obtain rfl : B = true := HB.out.2 (.inr pu)
      go_wp2_with fail
      go_meet
      case rel => exact ⟨rfl, rfl⟩
    have pu' : decide ((L : Int) ≤ n) = false := decide_eq_false pu
    obtain rfl : B = false := by
      cases hB : B with
      | false => rfl
      | true => exact absurd (HB.out.1 hB) (by omega)
    go_wp2_with fail
    go_meet
    case rel => exact ⟨rfl, rfl⟩
  case rest =>
  obtain ⟨rfl, e9⟩ := hcut
  subst e9
  go_upto_if 48 with fail
  go_cut [1] from 49 to 51 (fun s wx => s = .int .i64 (k : Int) ∧ wx = wc)
  case first =>
    cases B with
    | true =>
      have := HK.out.2.1 rfl
      have ek : ((L : Int) - 1) = (k : Int) := by omega
      have HEK : Hid _ := ek
      clear ek this
      go_wp2_with fail
      go_meet
      case rel => exact ⟨by rw [← HEK.out], rfl⟩
    | false =>
      have HEK : Hid _ := HK.out.2.2 rfl
      go_wp2_with fail
      go_meet
      case rel => exact ⟨by rw [HEK.out], rfl⟩
  case rest =>
  obtain ⟨rfl, e9⟩ := hcut
  subst e9
  have hkL := HK.out.1
  clear HK HB
  go_wp2_with fail
  refine (readP_begins p tz HZ.out HG.out.1 HG.out.2.2 HC.out k (by rw [← HL.out]; exact hkL) _ _ (by have := sees_cut15 (i := 0) (j := k) (Sees.own (by have := H4.out.2.1; rw [HL.out] at this; exact this)) (Nat.zero_le _) (by rw [← HL.out]; omega); simpa using this) H4.out.1.nam H4.out.1.pnam).mono ?_
  rintro _ w5 ⟨pv, rfl, hpv, e5⟩
  have s5 : (w5.alloc (.cells (zPk 0) 39)).heap[w5.heap.size]? = some (.cells (zPk 0) 39 (0, 0)) := heap_alloc_new _ _
  obtain ⟨W5, hW5⟩ : ∃ W5, W5 = (w5.alloc (.cells (zPk 0) 39)).setRow w5.heap.size pv := ⟨_, rfl⟩
  have HPV : Hid (PvOk pv) := hpv
  have q5 := hpv.sz
  have z5 := hpv.z
  have o5 := hpv.one
  have H5 : Hid (Below w.heap.size w W5 ∧ Nam W5 ∧ PNam W5 ∧ Owns W5 w2.heap.size (.slice (some ⟨g, 0, none⟩) L cp) (pkB p) ∧ g < W5.heap.size) := by
    have a := row_new w5 (zPk 0) pv 39
    rw [← hW5] at a
    have eb : Below wc.heap.size wc W5 := e5.trans (a.1.mono e5.size)
    have hP := H4.out.1.later eb
    have ho : Owns wc w2.heap.size (.slice (some ⟨g, 0, none⟩) (pkB p).length cp) (pkB p) := by have := H4.out.2.1; rw [HL.out] at this; exact this
    exact ⟨hP.bel, hP.nam, hP.pnam, by rw [HL.out]; exact owns_later15 ho eb, by have := HGL.out.2; have := eb.size; omega⟩
  have HA5 : Hid _ := hW5
  clear hW5 hpv e5 H4
  go_upto_region 12 with (refine wpList_store_row rfl 39 _ _ rfl w5.heap.size pv rfl rfl 39 _ s5 q5 z5 o5 ?_)
  rw [← HA5.out]
  clear HA5 s5 q5 z5 o5 HPV
  go_wp2_with fail
  refine (copyBytes_any _ (pkB p) _ (Sees.own (by have := H5.out.2.2.2.1; rw [HL.out] at this ⊢; exact this)) (by rw [← HL.out]; omega)).mono ?_
  rintro _ w6 ⟨v6, rfl, ho6, e6⟩
  have H6 : Hid (Below w.heap.size w w6 ∧ Nam w6 ∧ PNam w6 ∧ Owns w6 w2.heap.size (.slice (some ⟨g, 0, none⟩) L cp) (pkB p) ∧ Owns w6 W5.heap.size v6 (pkB p) ∧ (g < W5.heap.size ∧ w.heap.size < g ∧ W5.heap.size ≤ w6.heap.size)) := by
    have hb := H5.out.1.trans (e6.mono H5.out.1.size)
    have ho : Owns W5 w2.heap.size (.slice (some ⟨g, 0, none⟩) (pkB p).length cp) (pkB p) := by have := H5.out.2.2.2.1; rw [HL.out] at this; exact this
    exact ⟨hb, H5.out.2.1.below e6 H5.out.2.1.lt, H5.out.2.2.1.below e6 H5.out.2.2.1.lt, by rw [HL.out]; exact owns_later15 ho e6, ho6, H5.out.2.2.2.2, HGL.out.1, e6.size⟩
  clear ho6 e6 H5 HGL
  obtain ⟨i0, hi, hz0, hz1, hz2⟩ := info_parts Tryz.infoByte
  go_wp2_with fail
  go_loopw [12, 13] (fun v' i wr => ∃ j : Nat, j ≤ M ∧ i = .int .i64 j ∧ Beh15 W5.heap.size w6 v6 (pkB p ++ ms.take j) wr v') (fun _ i _ => M - (intOf i).toNat)
  case atStart => exact ⟨0, Nat.zero_le _, rfl, by simpa using Beh15.refl H6.out.2.2.2.2.1 H6.out.2.2.2.2.2.2.2⟩
  case round =>
    obtain ⟨j, hj, rfl, hbe⟩ := hrel
    by_cases hlt : j < M
    · have HBW : Hid (Below w.heap.size w wr) := H6.out.1.trans ((hbe.below H6.out.2.2.2.2.1 H6.out.2.2.2.2.2.2.2).mono (by have := H6.out.2.2.2.2.2; have := H6.out.1.size; omega))
      obtain ⟨b, off, rfl, hc0⟩ : ∃ b off, m0 = some ⟨b, off, none⟩ ∧ ∀ i, i < M → w.cell? ⟨b, off + i, none⟩ = some (.int .u8 (ms.getD i 0)) := by
        obtain ⟨ao, cap, h, _, _, _, h3⟩ := HM.out
        simp at h
        obtain ⟨rfl, _, rfl⟩ := h
        rcases h3 with h3 | ⟨b, off, rfl, h3⟩
        · have := HML.out; rw [h3] at this; simp at this; omega
        · exact ⟨b, off, rfl, fun i hi => h3 i (by rw [← HML.out]; exact hi)⟩
      have hc := cell_later (hc0 j hlt) HBW.out (Nat.le_refl _)
      have HN : Hid _ := take_next ms j (by rw [← HML.out]; exact hlt)
      have HL2 : Hid ((pkB p ++ ms.take j).length ≤ 8192 + j) := by show _ ≤ _; have := HL.out; simp; omega
      clear hc0
      generalize ms.getD j 0 = x at *
      have HN2 : Hid (pkB p ++ ms.take (j + 1) = (pkB p ++ ms.take j) ++ [x]) := by show _ = _; rw [HN.out]; simp
      clear HN
      generalize hzs : pkB p ++ ms.take j = zs at *
      clear hzs
      have HK : Hid _ := hbe
      have hown := hbe.own
      have hsz := hbe.base
      clear hbe
      go_wp2_with (at_builtin; refine wpList_append_own_at _ rfl _ _ 30 rfl W5.heap.size 5 i0 (.int .u8 0) 1 1 Tryz.underlying30 hi hz0 hz1 hz2 rfl (by decide) _ _ _ rfl (hown.alloc _) ⟨wr.heap.size, 0, none⟩ 1 1 [.int .u8 x] rfl rfl (cell_one_new _ _ _) ?c2 ?c3 ?c4 ?c5 ?_)
      case c2 => intro u hu; simp at hu; subst hu; rfl
      case c3 => have := HL2.out; unfold maxLen; omega
      case c4 => have := HL2.out; omega
      case c5 => simp; omega
      intro v' w1' hown' hgrow _ hbk
      have R : Hid _ := be15_step HK.out hown' hgrow (by simpa using hbk)
      clear hown' hgrow hown hc hbk HK
      go_wp2
      go_roundw
      case rel => exact ⟨j + 1, by omega, by go_num, by rw [HN2.out]; exact R.out⟩
      case measure => simp [intOf]; omega
    obtain rfl : j = M := by omega
    have HS : Hid (EnS w g cp (pkB p) u12 (pkB p ++ ms) wr) := by
      have e : ms.take j = ms := List.take_of_length_le (by have := HML.out; omega)
      rw [e] at hbe
      have hb := hbe.below H6.out.2.2.2.2.1 H6.out.2.2.2.2.2.2.2
      have hb2 : Below w.heap.size w wr := H6.out.1.trans (hb.mono (by have := H6.out.2.2.2.2.2; have := H6.out.1.size; omega))
      refine ⟨hb2, HNP.out.1.below hb2 HNP.out.1.lt, HNP.out.2.below hb2 HNP.out.2.lt, ⟨w2.heap.size, ?_⟩, ⟨_, hbe.own⟩⟩
      have ho := H6.out.2.2.2.1
      rw [HL.out] at ho
      exact Owns.kept ho hbe.kept (fun q hq hq' => by
        simp [Value.ownBlock] at hq
        have := (H6.out.2.2.2.2.1.lt q hq').1
        have := H6.out.2.2.2.2.2.1
        omega)
    clear hbe H6
    obtain ⟨N, hN⟩ : ∃ N, N = (pkB p ++ ms).length := ⟨_, rfl⟩
    have hN1 : N = L + j := by rw [hN, HL.out, HML.out]; simp
    obtain ⟨g7, c7, e7⟩ : ∃ g c, u12 = .slice (some ⟨g, 0, none⟩) N c := by
      obtain ⟨B, hB⟩ := HS.out.l
      rw [hN]
      exact owns_at15 hB (fun e => by have := congrArg List.length e; rw [← hN] at this; simp at this; omega)
    subst e7
    have hc7 : N ≤ c7 ∧ c7 ≤ 9223372036854775807 := by
      obtain ⟨B, hB⟩ := HS.out.l
      obtain ⟨ao, cap, h, q1, q2, _⟩ := Sees.own hB
      simp at h
      obtain ⟨_, _, rfl⟩ := h
      unfold maxLen at q2
      rw [← hN] at q1
      exact ⟨q1, q2⟩
    obtain ⟨hc71, hc72⟩ := hc7
    have HSL : Hid (∀ W, EnS w g cp (pkB p) (.slice (some ⟨g7, 0, none⟩) N c7) (pkB p ++ ms) W → Sees W (.slice (some ⟨g7, 0, none⟩) N c7) (be4 (adler (bodyP p)) ++ (bodyP p ++ ms)) ∧ Sees W (.slice (some ⟨g7, 4, none⟩) (N - 4) (c7 - 4)) (bodyP p ++ ms) ∧ g7 < W.heap.size) := fun W hW => by
      obtain ⟨B, hB⟩ := hW.l
      have h1 := Sees.own hB
      have e : pkB p ++ ms = be4 (adler (bodyP p)) ++ (bodyP p ++ ms) := by rw [← List.append_assoc]; rfl
      have h2 := sees_cut15 (i := 4) (j := (pkB p ++ ms).length) (by rw [hN] at h1; exact h1) (by omega) (Nat.le_refl _)
      have e2 : ((pkB p ++ ms).drop 4).take ((pkB p ++ ms).length - 4) = bodyP p ++ ms := by
        rw [List.take_of_length_le (by rw [List.length_drop]; exact Nat.le_refl _), e]
        rfl
      rw [e2, ← hN, Nat.zero_add] at h2
      rw [← e]
      exact ⟨h1, h2, (hB.lt g7 rfl).2⟩
    have HNN : Hid _ := hN
    have hN4 : 4 < N := by omega
    have hN5 : N ≤ 600000000 := by omega
    have HN1 : Hid _ := hN1
    clear hN1
    obtain ⟨E, HE⟩ : ∃ E, Hid (E = endE ms) := ⟨_, rfl⟩
    clear hN
    go_wp2_with fail
    refine (readP_ends p tz HZ.out HG.out.1 HG.out.2.2 HC.out (adler (bodyP p)) ms HG.out.2.1 (.inr rfl) _ _ (HSL.out _ HS.out).1 HS.out.nam HS.out.pnam).mono ?_
    rw [← HE.out]
    rintro _ w7 ⟨pv7, rfl, hpv, e7⟩
    have s7 : (w7.alloc (.cells (zPk 0) 39)).heap[w7.heap.size]? = some (.cells (zPk 0) 39 (0, 0)) := heap_alloc_new _ _
    obtain ⟨W8, hW8⟩ : ∃ W8, W8 = (w7.alloc (.cells (zPk 0) 39)).setRow w7.heap.size pv7 := ⟨_, rfl⟩
    have q7 := hpv.sz
    have z7 := hpv.z
    have o7 := hpv.one
    have H8 : Hid (EnS w g cp (pkB p) (.slice (some ⟨g7, 0, none⟩) N c7) (pkB p ++ ms) W8) := by
      have a := row_new w7 (zPk 0) pv7 39
      rw [← hW8] at a
      exact HS.out.later (e7.trans (a.1.mono e7.size))
    have HA8 : Hid _ := hW8
    clear hW8 hpv e7 HS
    go_upto_region 18 with (refine wpList_store_row rfl 39 _ _ rfl w7.heap.size pv7 rfl rfl 39 _ s7 q7 z7 o7 ?_)
    rw [← HA8.out]
    clear HA8 s7 q7 z7 o7
    have hcase : (j = 0 ∧ E = 0) ∨ (j ≠ 0 ∧ E = 150) := by
      have e := HE.out
      unfold endE at e
      rw [← HML.out] at e
      by_cases h : j = 0
      · rw [if_pos h] at e; exact .inl ⟨h, e⟩
      · rw [if_neg h] at e; exact .inr ⟨h, e⟩
    have HCS : Hid _ := hcase
    clear hcase
    obtain ⟨zb, HZB⟩ : ∃ zb : Bool, Hid ((E == 0) = zb ∧ ((j : Int) == 0) = zb) := by
      rcases HCS.out with ⟨rfl, h⟩ | ⟨h1, h2⟩
      · exact ⟨true, by rw [h]; rfl, rfl⟩
      · exact ⟨false, by rw [h2]; rfl, by simp [h1]⟩
    have zb1 := HZB.out.1
    have zb2 := HZB.out.2
    go_upto_region 20 with fail
    obtain ⟨qb, HQB⟩ : ∃ qb : Bool, Hid (decide ((4 : Int) ≤ (k : Int)) = qb) := ⟨_, rfl⟩
    have qb1 := HQB.out
    go_upto_if 90 with fail
    go_cut [11] from 92 to 98 (fun s wx => s = .int .i64 150 ∧ EnS w g cp (pkB p) (.slice (some ⟨g7, 0, none⟩) N c7) (pkB p ++ ms) wx)
    case first =>
      cases qb with
      | true =>
        have h4 : 4 ≤ k := by have := of_decide_eq_true HQB.out; omega
        have hkcp : k ≤ cp := by omega
        have HB8 : Hid (Sees W8 (.slice (some ⟨g, 4, none⟩) (k - 4) (cp - 4)) (((pkB p).drop 4).take (k - 4)) ∧ g < W8.heap.size) := by
          obtain ⟨B, hB⟩ := H8.out.b
          have h2 := sees_cut15 (i := 4) (j := k) (Sees.own hB) h4 (by rw [← HL.out]; omega)
          rw [Nat.zero_add] at h2
          exact ⟨h2, (hB.lt g rfl).2⟩
        have HBy : Hid (Byts (((pkB p).drop 4).take (k - 4))) := ((body_byts p HG.out.1 HG.out.2.2 (chk_all HC.out)).take (k - 4) : Byts ((bodyP p).take (k - 4)))
        go_wp2_with fail
        refine (summed15 _ _ W8 HB8.out.1 (fun q e => by simp [Value.ownBlock] at e; subst e; exact HB8.out.2) HBy.out (by rw [List.length_take]; omega)).mono ?_
        rintro _ w9 ⟨v9, rfl, ho9, e9⟩
        obtain ⟨g9, n9, c9, rfl⟩ := owns_at15n ho9 (fun e => by have := congrArg List.length e; simp [be4] at this)
        have H9 : Hid (EnS w g cp (pkB p) (.slice (some ⟨g7, 0, none⟩) N c7) (pkB p ++ ms) w9 ∧ Sees w9 _ (be4 (adler (((pkB p).drop 4).take (k - 4))) ++ ((pkB p).drop 4).take (k - 4))) := ⟨H8.out.later e9, Sees.own ho9⟩
        clear ho9 e9
        go_wp2_with fail
        refine (readP_begins2 p tz HZ.out HG.out.1 HG.out.2.2 HC.out k h4 (by rw [← HL.out]; omega) _ _ H9.out.2 H9.out.1.nam H9.out.1.pnam).mono ?_
        rintro _ w10 ⟨pv10, rfl, _, e10⟩
        have H10 : Hid (EnS w g cp (pkB p) (.slice (some ⟨g7, 0, none⟩) N c7) (pkB p ++ ms) w10) := H9.out.1.later e10
        clear e10 H9
        go_wp2_with fail
        go_meet
        case rel => exact ⟨rfl, H10.out⟩
      | false =>
        go_wp2_with fail
        go_meet
        case rel => exact ⟨rfl, H8.out⟩
    case rest =>
    obtain ⟨rfl, hS⟩ := hcut
    have H10 : Hid _ := hS
    have HS10 : Hid _ := HSL.out _ hS
    clear hS H8 qb1
    have HBy : Hid (Byts (bodyP p ++ ms) ∧ (bodyP p ++ ms).length ≤ 900000000) := ⟨(body_byts p HG.out.1 HG.out.2.2 (chk_all HC.out)).append HG.out.2.1, by have := HML.out; have := body_le HC.out; simp; omega⟩
    go_wp2_with fail
    refine (summed15 _ _ _ HS10.out.2.1 (fun q e => by simp [Value.ownBlock] at e; subst e; exact HS10.out.2.2) HBy.out.1 HBy.out.2).mono ?_
    rintro _ w11 ⟨v11, rfl, ho11, e11⟩
    obtain ⟨g11, n11, c11, rfl⟩ := owns_at15n ho11 (fun e => by have := congrArg List.length e; simp [be4] at this)
    have H11 : Hid (EnS w g cp (pkB p) (.slice (some ⟨g7, 0, none⟩) N c7) (pkB p ++ ms) w11 ∧ Sees w11 _ (be4 (adler (bodyP p ++ ms)) ++ (bodyP p ++ ms))) := ⟨H10.out.later e11, Sees.own ho11⟩
    clear ho11 e11 H10 HS10
    go_wp2_with fail
    refine (readP_ends p tz HZ.out HG.out.1 HG.out.2.2 HC.out (adler (bodyP p ++ ms)) ms HG.out.2.1 (.inl rfl) _ _ H11.out.2 H11.out.1.nam H11.out.1.pnam).mono ?_
    rw [← HE.out]
    rintro _ w12 ⟨pv12, rfl, _, e12⟩
    have H12 : Hid (EnS w g cp (pkB p) (.slice (some ⟨g7, 0, none⟩) N c7) (pkB p ++ ms) w12) := H11.out.1.later e12
    clear e12 H11
    go_wp2_with fail
    go_ret
    exact ⟨rfl, H12.out.bel⟩
end Go.Proofs.YtgeoocchdpehdaaGreatDoor
