/- PackOne of the statements of layer 1 answers true for all bytes and all lists of kinds: what a Reader read without a fault a Writer lays again, byte for byte. No condition. -/
import Derived.Test.YtmjcpcpcngpdjaaRows
import Derived.Test.YtmjcpcpcngpdjaaShell
import Derived.Test.YtmjcpcpcngpdjaaTwo
namespace Go.Proofs.Ytmjcpcpcngpdjaa
open Go.ChangeShapes Go.WideShapes Go.ChangeAt Go.RowKit
namespace packOne
set_option linter.unusedVariables false

/-- The slice value v leads to the numbers xs. -/
def SeesI (w : World) (v : Value) (xs : List Int) : Prop :=
  ∃ (ao : Option Addr) (cap : Nat), v = .slice ao xs.length cap ∧ xs.length ≤ cap ∧ cap ≤ maxLen ∧ (xs = [] ∨ ∃ b off, ao = some ⟨b, off, none⟩ ∧ ∀ i, i < xs.length → w.cell? ⟨b, off + i, none⟩ = some (.int .i64 (xs.getD i 0)))

theorem seesI_row {w : World} {a : Option Addr} {len cap : Nat} {zs : List Int} (h : IsRow .i64 w a len cap zs) : ∃ xs, xs.length = len ∧ SeesI w (.slice a len cap) xs := by
  rcases h with ⟨rfl, rfl, rfl, rfl⟩ | ⟨x, rfl, h1, h2, h3, h4, h5⟩
  · exact ⟨[], rfl, ⟨none, 0, rfl, Nat.le_refl _, by unfold maxLen; omega, .inl rfl⟩⟩
  · have hl : (zs.take len).length = len := by simp; omega
    refine ⟨zs.take len, hl, ⟨some x, cap, by rw [hl], by omega, h2, ?_⟩⟩
    by_cases h0 : len = 0
    · subst h0; exact .inl (by simp)
    · obtain ⟨b, off, spot⟩ := x
      have hc := h4 0 (by omega)
      have hspot : spot = none := by simpa [Addr.add] using World.cell?_spot hc
      subst hspot
      refine .inr ⟨b, off, rfl, fun i hi => ?_⟩
      have := h4 i (by omega)
      rw [addr_add] at this
      rw [this]
      have hi' : i < len := by omega
      simp [List.getD_eq_getElem?_getD, hi']

theorem SeesI.below {B : Nat} {w w' : World} {v : Value} {xs : List Int} (h : SeesI w v xs) (hb : Below B w w') (hB : w.heap.size ≤ B) : SeesI w' v xs := by
  obtain ⟨ao, cap, rfl, h1, h2, h3⟩ := h
  refine ⟨ao, cap, rfl, h1, h2, ?_⟩
  rcases h3 with h3 | ⟨b, off, rfl, h3⟩
  · exact .inl h3
  · refine .inr ⟨b, off, rfl, fun i hi => cell_later (h3 i hi) hb hB⟩

/-- The state at the loop's head: the first m bytes are read and laid. -/
def Inv (w : World) (gr gw : Nat) (xs : List Int) (n : Nat) (i : Value) (wr : World) : Prop :=
  ∃ (k m : Nat) (vr vw : Value), k ≤ n ∧ i = .int .i64 k ∧ m ≤ xs.length ∧ Two w gr gw (xs.drop m) 0 (xs.take m) vr vw wr

/-- A round: what was read is laid. -/
theorem next {w w2 w3 : World} {gr gw m : Nat} {xs : List Int} {kk n : Int} {vr' vw u3 : Value} (hk0 : 1 ≤ kk) (hk1 : kk ≤ 8) (hb : Byts xs) (hm : m ≤ xs.length) (A : Ans) (hA : ansOf kk n (xs.drop m) 0 = A) (h2 : Two w gr gw A.st.rest A.st.fault (xs.take m) vr' vw w2) (hok : A.st.fault = 0)
    (hput : PutTo w2 gw vw (xs.take m) (encOf kk (if A.b then 1 else A.n) A.x A.s A.ys) u3 w3) :
    ∃ (m' : Nat) (vr vw : Value), m' ≤ xs.length ∧ Two w gr gw (xs.drop m') 0 (xs.take m') vr vw w3 := by
  subst hA
  have hf := ans_form kk n hk0 hk1 (hb.drop m) hok
  obtain ⟨vw', h3⟩ := h2.put hput.2.2
  rw [hok] at h3
  generalize (ansOf kk n (xs.drop m) 0).st.rest = rest at *
  generalize encOf kk _ _ _ _ = enc at *
  have hl : (xs.drop m).length = enc.length + rest.length := by rw [hf]; simp
  rw [List.length_drop] at hl
  have e1 : xs.drop (m + enc.length) = rest := by
    rw [← List.drop_drop, hf]; simp
  have e2 : xs.take (m + enc.length) = xs.take m ++ enc := by
    rw [List.take_add, hf]; simp
  exact ⟨m + enc.length, _, vw', by omega, by rw [e1, e2]; exact h3⟩

set_option maxRecDepth 100000 in
set_option maxHeartbeats 1000000 in
theorem walk (a0 : Option Addr) (len0 cap0 : Nat) (z0 : List Int) (a1 : Option Addr) (len1 cap1 : Nat) (z1 : List Int) (w : World) (w0 : IsRow .u8 w a0 len0 cap0 z0) (w1 : IsRow .i64 w a1 len1 cap1 z1) :
    Calls Try.prog 4 #[.slice a0 len0 cap0, .slice a1 len1 cap1] w fun e w' => e = .returned (.bool true) ∧ Below w.heap.size w w' := by
  obtain ⟨xs, hl, hs, hb⟩ := sees_row w0
  obtain ⟨ks, hl', hs'⟩ := seesI_row w1
  clear w0 w1 z0 z1
  subst hl hl'
  have HS : Hid (Sees w (.slice a0 xs.length cap0) xs ∧ Byts xs ∧ SeesI w (.slice a1 ks.length cap1) ks) := ⟨hs, hb, hs'⟩
  have q1 : xs.length ≤ cap0 ∧ cap0 ≤ 9223372036854775807 := by
    obtain ⟨_, _, e, h1, h2, _⟩ := hs; simp at e; obtain ⟨_, rfl⟩ := e; unfold maxLen at h2; omega
  have q2 : ks.length ≤ cap1 ∧ cap1 ≤ 9223372036854775807 := by
    obtain ⟨_, _, e, h1, h2, _⟩ := hs'; simp at e; obtain ⟨_, rfl⟩ := e; unfold maxLen at h2; omega
  obtain ⟨q3, q4⟩ := q1
  obtain ⟨q5, q6⟩ := q2
  clear hs hb hs'
  by_cases hbig : 67108864 < xs.length
  · go_enter Try.func4, Try.ntmps4
    go_wp2_with fail
    refine (works_any _).mono ?_
    rintro e w1 ⟨rfl, hb1⟩
    have HB1 : Hid (Below w.heap.size w w1) := hb1
    clear hb1
    go_wp2
    go_ret
    exact ⟨rfl, HB1.out⟩
  by_cases hbig2 : 67108864 < ks.length
  · go_enter Try.func4, Try.ntmps4
    go_wp2_with fail
    refine (works_any _).mono ?_
    rintro e w1 ⟨rfl, hb1⟩
    have HB1 : Hid (Below w.heap.size w w1) := hb1
    clear hb1
    go_wp2
    go_ret
    exact ⟨rfl, HB1.out⟩
  have hd1 : decide ((67108864 : Int) < (xs.length : Int)) = false := by simp; omega
  have hd2 : decide ((67108864 : Int) < (ks.length : Int)) = false := by simp; omega
  have hnn : xs.length ≤ 67108864 := by omega
  have hnl : ks.length ≤ 67108864 := by omega
  clear hbig hbig2
  have hsf := store_float
  go_enter Try.func4, Try.ntmps4
  go_wp2_with fail
  refine (works_any _).mono ?_
  rintro e w1 ⟨rfl, hb1⟩
  have HB1 : Hid (Below w.heap.size w w1) := hb1
  clear hb1
  go_wp2_with fail
  refine (copyBytes_any _ xs _ (HS.out.1.below HB1.out (Nat.le_refl _)) (by omega)).mono ?_
  rintro e w2 ⟨v2, rfl, ho2, hb2⟩
  have HB2 : Hid (Below w.heap.size w w2 ∧ Sees w2 v2 xs) := ⟨HB1.out.trans (hb2.mono HB1.out.size), Sees.own ho2⟩
  clear ho2 hb2 HB1
  go_wp2_with fail
  refine (new_any v2 xs _ HB2.out.2 (by omega)).mono ?_
  rintro e w3 ⟨gr, vr, rfl, hR, hgr, hO, hb3⟩
  have HT : Hid (Two w gr w3.heap.size xs 0 [] vr (.slice none 0 0) (w3.alloc (.cells #[.slice none 0 0] 28))) := by
    have hkb : Kept w3 (w3.alloc (.cells #[.slice none 0 0] 28)) (fun _ => False) := (Kept.refl _ _).alloc _
    have hbel : Below w.heap.size w w3 := HB2.out.1.trans (hb3.mono HB2.out.1.size)
    refine ⟨hR.kept hkb (fun h => h) (fun _ _ h => h), ⟨heap_alloc_new _ _, World.ownsRow_nil _ _ _ _⟩, fun j hj => (hO.lt j hj).2, fun j hj => by simp [Value.ownBlock] at hj, hbel.alloc hbel.size _, ?_, lt_of_block hR.1⟩
    have := HB2.out.1.size
    omega
  clear hR hgr hO hb3 HB2
  go_wp2
  go_loopw [8] (Inv w gr w3.heap.size xs ks.length) (fun i _ => ks.length - (intOf i).toNat)
  case atStart => exact ⟨0, 0, vr, _, Nat.zero_le _, rfl, Nat.zero_le _, HT.out⟩
  case round =>
    clear HT vr
    obtain ⟨k, m, vr, vw, hk, rfl, hm, hT⟩ := hrel
    have HT : Hid (Two w gr w3.heap.size (xs.drop m) 0 (xs.take m) vr vw wr) := hT
    clear hT
    by_cases hlt : k < ks.length
    · have hsee := SeesI.below HS.out.2.2 HT.out.bel (Nat.le_refl _)
      obtain ⟨ao', cap', e, _, _, h3⟩ := hsee
      simp at e
      obtain ⟨rfl, rfl⟩ := e
      rcases h3 with h3 | ⟨b, off, rfl, h3⟩
      · subst h3; simp at hlt
      have hc := h3 k hlt
      clear h3
      generalize ks.getD k 0 = kk at *
      by_cases hk0 : kk < 1
      · go_wp2
        go_roundw
        case rel => exact ⟨k + 1, m, vr, vw, by omega, by go_num, hm, HT.out⟩
        case measure => simp [intOf]; omega
      by_cases hk1 : 8 < kk
      · go_wp2
        go_roundw
        case rel => exact ⟨k + 1, m, vr, vw, by omega, by go_num, hm, HT.out⟩
        case measure => simp [intOf]; omega
      have hk0' : 1 ≤ kk := by omega
      have hk1' : kk ≤ 8 := by omega
      go_wp2_with fail
      refine (get_any kk hk0' (by omega) gr vr (xs.drop m) 0 0 xs.length 0 ⟨#[]⟩ none 0 0 _ HT.out.isR (HS.out.2.1.drop m)).mono ?_
      rintro e w4 ⟨u, rfl, hc4, hp4⟩
      generalize hA : ansOf kk xs.length (xs.drop m) 0 = A at hc4 hp4
      obtain ⟨ua, hu⟩ := hc4.2.1
      obtain ⟨vr5, hT4, hsub⟩ := HT.out.get hp4
      have HC : Hid (Cut w4 vr u A.ys ∧ Two w gr w3.heap.size A.st.rest A.st.fault (xs.take m) vr5 vw w4 ∧ ansOf kk xs.length (xs.drop m) 0 = A) := ⟨hc4, hT4, hA⟩
      have HY : Hid (A.ys.length = A.ys.length) := rfl
      subst hu
      clear hc4 hp4 hT4 hsub hA hc
      generalize hq : A.ys.length = q at *
      have HQ : Hid (A.ys.length = q) := hq
      clear hq HY
      go_wp2_with fail
      have hk5 : Kept w4 (w4.alloc (.cells (told A.b A.n A.x A.s (.slice ua q q) 0 0) 41)) (fun _ => False) := (Kept.refl _ _).alloc _
      have HK5 : Hid _ := hk5
      clear hk5
      refine (rErr_any gr vr5 A.st.rest A.st.fault _ (by exact HC.out.2.1.isR.kept HK5.out (fun h => h) (fun _ _ h => h))).mono ?_
      rintro e w5 ⟨rfl, hw5⟩
      have hrow : w5.heap[w4.heap.size]? = some (.cells (told A.b A.n A.x A.s (.slice ua q q) 0 0) 41 (0, 0)) := by rw [hw5]; exact heap_alloc_new _ _
      have HD : Hid (Two w gr w3.heap.size A.st.rest A.st.fault (xs.take m) vr5 vw w5 ∧ Sees w5 (.slice ua q q) A.ys) := by
        rw [hw5]
        exact ⟨HC.out.2.1.keep HK5.out, HC.out.1.1.kept HK5.out (fun _ _ h => h)⟩
      obtain ⟨k0, k1, k2, k3, k4, k5, k6, kf⟩ := row7 hrow
      clear hw5 HK5 hrow
      by_cases hF : A.st.fault = 0
      · have HF : Hid (A.st.fault = 0) := hF
        have HE : Hid (Fits (if A.b then 1 else A.n) A.x A.s A.ys ∧ (xs.drop m = encOf kk (if A.b then 1 else A.n) A.x A.s A.ys ++ A.st.rest)) := by
          have e := HC.out.2.2
          subst e
          exact ⟨ans_fits kk xs.length hk0' hk1' (HS.out.2.1.drop m), ans_form kk xs.length hk0' hk1' (HS.out.2.1.drop m) hF⟩
        have HL : Hid ((xs.take m ++ encOf kk (if A.b then 1 else A.n) A.x A.s A.ys).length ≤ 140737488355328) := by
          show (xs.take m ++ encOf kk (if A.b then 1 else A.n) A.x A.s A.ys).length ≤ 140737488355328
          have e := HE.out.2
          generalize encOf kk (if A.b then 1 else A.n) A.x A.s A.ys = enc at e ⊢
          have e2 : (xs.drop m).length = enc.length + A.st.rest.length := by rw [e, List.length_append]
          rw [List.length_drop] at e2
          rw [List.length_append, List.length_take]
          omega
        have HP : Hid (A.ys ≠ [] → ∀ k, (Value.slice ua A.ys.length q).ownBlock = some k → k ≠ w3.heap.size ∧ vw.ownBlock ≠ some k) := by
          intro _ k hk
          have h1 := HT.out.rowR k (HC.out.1.2.2 k (by cases ua with | none => (simp [Value.ownBlock] at hk) | some a => exact hk))
          refine ⟨by omega, fun e => ?_⟩
          have := HT.out.rowW k e
          omega
        by_cases hV : A.b = true
        · go_wp2_with fail
          have HG : Hid (Fits 1 A.x A.s A.ys ∧ (xs.take m ++ encOf kk 1 A.x A.s A.ys).length ≤ 140737488355328) := by
            have h1 := HE.out.1
            have h2 := HL.out
            rw [if_pos hV] at h1 h2
            exact ⟨h1, h2⟩
          have hput0 := put_any kk hk0' hk1' w3.heap.size vw (xs.take m) A.ys 0 1 A.x A.s ua q w5 HD.out.1.isW (by rw [HQ.out]; exact HD.out.2) HP.out HG.out.1 HG.out.2
          rw [HQ.out] at hput0
          refine hput0.mono ?_
          clear hput0
          rintro e w6 ⟨u6, rfl, hput⟩
          have HN : Hid (∃ (m' : Nat) (vr vw : Value), m' ≤ xs.length ∧ Two w gr w3.heap.size (xs.drop m') 0 (xs.take m') vr vw w6) :=
            next hk0' hk1' HS.out.2.1 hm A HC.out.2.2 HD.out.1 HF.out (u3 := u6) (by rw [if_pos hV]; exact hput)
          clear hput
          go_wp2
          go_roundw
          case rel =>
            obtain ⟨m', vr', vw', r1, r2⟩ := HN.out
            exact ⟨k + 1, m', vr', vw', by omega, by go_num, r1, r2⟩
          case measure => simp [intOf]; omega
        · go_wp2_with fail
          have HG : Hid (Fits A.n A.x A.s A.ys ∧ (xs.take m ++ encOf kk A.n A.x A.s A.ys).length ≤ 140737488355328) := by
            have h1 := HE.out.1
            have h2 := HL.out
            rw [if_neg hV] at h1 h2
            exact ⟨h1, h2⟩
          have hput0 := put_any kk hk0' hk1' w3.heap.size vw (xs.take m) A.ys 0 A.n A.x A.s ua q w5 HD.out.1.isW (by rw [HQ.out]; exact HD.out.2) HP.out HG.out.1 HG.out.2
          rw [HQ.out] at hput0
          refine hput0.mono ?_
          clear hput0
          rintro e w6 ⟨u6, rfl, hput⟩
          have HN : Hid (∃ (m' : Nat) (vr vw : Value), m' ≤ xs.length ∧ Two w gr w3.heap.size (xs.drop m') 0 (xs.take m') vr vw w6) :=
            next hk0' hk1' HS.out.2.1 hm A HC.out.2.2 HD.out.1 HF.out (u3 := u6) (by rw [if_neg hV]; exact hput)
          clear hput
          go_wp2
          go_roundw
          case rel =>
            obtain ⟨m', vr', vw', r1, r2⟩ := HN.out
            exact ⟨k + 1, m', vr', vw', by omega, by go_num, r1, r2⟩
          case measure => simp [intOf]; omega
      · have HFF : Hid (Two w gr w3.heap.size (xs.drop m) A.st.fault (xs.take m) vr5 vw w5) := by
          have e := HC.out.2.2
          have hst : A.st.rest = xs.drop m := by
            subst e
            exact ans_stay kk xs.length hk0' hk1' hF
          have := HD.out.1
          rw [hst] at this
          exact this
        clear HC HD k0 k1 k2 k3 k4 k5 k6 kf
        go_wp2_with fail
        refine (wBytes_any w3.heap.size _ (xs.take m) _ HFF.out.isW (by have := List.length_take_le m xs; omega)).mono ?_
        rintro e w8 ⟨v8, rfl, ho8, hb8⟩
        have hs8 := Sees.own ho8
        obtain ⟨ao8, c8, hv8, hc1, hc2, _, _⟩ := hs8
        have hlm : (xs.take m).length = m := by simp; omega
        rw [hlm] at hv8 hc1
        unfold maxLen at hc2
        subst hv8
        have HB8 : Hid (Below w.heap.size w w8 ∧ Sees w8 (.slice ao8 m c8) (xs.take m) ∧ Sees w8 (.slice a0 m cap0) (xs.take m) ∧ ∃ vr8, IsR w8 gr vr8 (xs.drop m) A.st.fault) := by
          have hbel : Below w.heap.size w w8 := HFF.out.bel.trans (hb8.mono HFF.out.bel.size)
          refine ⟨hbel, Sees.own ho8, (sees_front HS.out.1 hm).below hbel (Nat.le_refl _), _, HFF.out.isR.kept (news hb8) (fun h => h) (fun _ _ h => h)⟩
        clear ho8 hb8 hlm
        go_wp2_with fail
        refine (eqBytes_any _ _ (xs.take m) (xs.take m) _ HB8.out.2.1 HB8.out.2.2.1).mono ?_
        rintro e w9 ⟨rfl, n9, hw9⟩
        have ed : decide (xs.take m = xs.take m) = true := by simp
        rw [ed]
        clear ed
        have HB9 : Hid (Below w.heap.size w w9 ∧ ∃ vr8, IsR w9 gr vr8 (xs.drop m) A.st.fault) := by
          have hk9 : Kept w8 w9 (fun _ => False) := by rw [hw9]; exact (Kept.refl _ _).drewN _
          obtain ⟨vr8, h8⟩ := HB8.out.2.2.2
          exact ⟨HB8.out.1.trans (hk9.below HB8.out.1.size (fun _ h => h.elim)), vr8, h8.kept hk9 (fun h => h) (fun _ _ h => h)⟩
        clear hw9 HB8
        go_wp2_with fail
        obtain ⟨vr9, h9⟩ := HB9.out.2
        refine (rLeft_any gr vr9 (xs.drop m) A.st.fault _ h9).mono ?_
        rintro e w10 ⟨rfl, rfl⟩
        clear h9
        have hdl : ((xs.drop m).length : Int) = (xs.length : Int) - (m : Int) := by simp; omega
        rw [hdl]
        clear hdl
        go_wp2
        go_ret
        exact ⟨rfl, HB9.out.1⟩
    · go_wp2_with fail
      refine (wBytes_any w3.heap.size _ (xs.take m) _ HT.out.isW (by have := List.length_take_le m xs; omega)).mono ?_
      rintro e w8 ⟨v8, rfl, ho8, hb8⟩
      have hs8 := Sees.own ho8
      obtain ⟨ao8, c8, hv8, hc1, hc2, _, _⟩ := hs8
      have hlm : (xs.take m).length = m := by simp; omega
      rw [hlm] at hv8 hc1
      unfold maxLen at hc2
      subst hv8
      have HB8 : Hid (Below w.heap.size w w8 ∧ Sees w8 (.slice ao8 m c8) (xs.take m) ∧ Sees w8 (.slice a0 m cap0) (xs.take m) ∧ ∃ vr8, IsR w8 gr vr8 (xs.drop m) 0) := by
        have hbel : Below w.heap.size w w8 := HT.out.bel.trans (hb8.mono HT.out.bel.size)
        refine ⟨hbel, Sees.own ho8, (sees_front HS.out.1 hm).below hbel (Nat.le_refl _), _, HT.out.isR.kept (news hb8) (fun h => h) (fun _ _ h => h)⟩
      clear ho8 hb8 hlm
      go_wp2_with fail
      refine (eqBytes_any _ _ (xs.take m) (xs.take m) _ HB8.out.2.1 HB8.out.2.2.1).mono ?_
      rintro e w9 ⟨rfl, n9, hw9⟩
      have ed : decide (xs.take m = xs.take m) = true := by simp
      rw [ed]
      clear ed
      have HB9 : Hid (Below w.heap.size w w9 ∧ ∃ vr8, IsR w9 gr vr8 (xs.drop m) 0) := by
        have hk9 : Kept w8 w9 (fun _ => False) := by rw [hw9]; exact (Kept.refl _ _).drewN _
        obtain ⟨vr8, h8⟩ := HB8.out.2.2.2
        exact ⟨HB8.out.1.trans (hk9.below HB8.out.1.size (fun _ h => h.elim)), vr8, h8.kept hk9 (fun h => h) (fun _ _ h => h)⟩
      clear hw9 HB8
      go_wp2_with fail
      obtain ⟨vr9, h9⟩ := HB9.out.2
      refine (rLeft_any gr vr9 (xs.drop m) 0 _ h9).mono ?_
      rintro e w10 ⟨rfl, rfl⟩
      clear h9
      have hdl : ((xs.drop m).length : Int) = (xs.length : Int) - (m : Int) := by simp; omega
      rw [hdl]
      clear hdl
      go_wp2
      go_ret
      exact ⟨rfl, HB9.out.1⟩

/-! ### THE ROW's STEP: WRITTEN OUT: LEAVE IT -/
set_option maxRecDepth 100000 in
theorem lifted (os : Os) (started : os.Started) (H : Type) (enc : TypeId × Value → H) :
    ReturnsInHanded {} Try.checked os 4 .any (Rows.packOneSpec.pre6 enc Try.prog Try.f4 Rows.packOneRow.domain false) (Rows.packOneSpec.post enc Try.prog Try.f4 false true false false) := by
  refine returnsInHanded_of_change (C := Try.checked) Try.own started (by kernel_rfl) Try.func4
    (ChangeSpec.witness6 (enc := enc) (C := Try.checked) false ⟨#[], #[.slice none 0 0, .slice none 0 0], []⟩ 8 (by kernel_rfl) (by kernel_rfl) (by kernel_rfl) (by kernel_rfl)) ?_
  intro W base args ds gs before hval0 hW hcnd _
  have hval : ∀ (j : Nat) t v, Try.f4.params[j]? = some t → args[j]? = some v → Value.okWide Try.prog W .any base t v := hval0
  have hW' := hW
  obtain ⟨p, q, hA0, hV, rfl, hfz, hnd⟩ := hW
  have hA : DataW.TrodAll enc Try.prog W 0 (fun _ => true) true Try.f4.params.toList args.toList ds p := hA0
  rw [Try.params4] at hA hval
  obtain ⟨v0, vs0, d0, ds0, p0, q0, hargs, rfl, rfl, h0, r0⟩ := trodAll_cons hA
  obtain ⟨v1, vs1, d1, ds1, p1, q1, rfl, rfl, rfl, h1, r1⟩ := trodAll_cons r0
  obtain ⟨rfl, rfl, rfl⟩ := trodAll_nil r1
  obtain rfl : args = #[v0, v1] := by cases args; simp_all
  obtain ⟨rfl, rfl⟩ := trodVars_none hV
  obtain ⟨a0, len0, cap0, rfl⟩ := okWide_slice Try.underlying26 (hval 0 26 v0 rfl rfl)
  have k0 := h0
  have lt0 : ∀ x ∈ p0, x.block < W.heap.size := by obtain ⟨m, hm⟩ := k0; exact DataW.trod_lt m _ _ _ hm
  obtain ⟨z0, w0⟩ : ∃ zs, IsRow .u8 W a0 len0 cap0 zs := by
    obtain ⟨fuel, hf⟩ := h0
    rcases open_ints Try.underlying26 Try.underlying5 (by kernel_rfl) hf with ⟨hcs, _⟩ | ⟨x, l, c, zs, hcs, _, hl, hm, hz, _, hcell, hwz⟩
    · simp [Value.cells] at hcs
      obtain ⟨rfl, rfl, rfl⟩ := hcs
      exact ⟨[], .inl ⟨rfl, rfl, rfl, rfl⟩⟩
    · simp [Value.cells] at hcs
      obtain ⟨rfl, rfl, rfl⟩ := hcs
      exact ⟨zs, .inr ⟨_, rfl, hl, hm, by simpa using hz, hcell, hwz⟩⟩
  obtain ⟨a1, len1, cap1, rfl⟩ := okWide_slice Try.underlying46 (hval 1 46 v1 rfl rfl)
  have k1 := h1
  have lt1 : ∀ x ∈ p1, x.block < W.heap.size := by obtain ⟨m, hm⟩ := k1; exact DataW.trod_lt m _ _ _ hm
  obtain ⟨z1, w1⟩ : ∃ zs, IsRow .i64 W a1 len1 cap1 zs := by
    obtain ⟨fuel, hf⟩ := h1
    rcases open_ints Try.underlying46 Try.underlying3 (by kernel_rfl) hf with ⟨hcs, _⟩ | ⟨x, l, c, zs, hcs, _, hl, hm, hz, _, hcell, hwz⟩
    · simp [Value.cells] at hcs
      obtain ⟨rfl, rfl, rfl⟩ := hcs
      exact ⟨[], .inl ⟨rfl, rfl, rfl, rfl⟩⟩
    · simp [Value.cells] at hcs
      obtain ⟨rfl, rfl, rfl⟩ := hcs
      exact ⟨zs, .inr ⟨_, rfl, hl, hm, by simpa using hz, hcell, hwz⟩⟩
  clear hA0 hval0
  refine (walk a0 len0 cap0 z0 a1 len1 cap1 z1 W w0 w1).mono fun e W' ⟨he, bel⟩ => ?_
  subst he
  exact ⟨_, rfl, _, _, _, [], _, [], hW', trodAll_mk1 (shut_bool Try.underlying4 _), (trodAll_cons_mk (Below.trod Try.laidOut (by kernel_rfl) (of_decide_eq_true (by kernel_rfl)) k0 bel lt0) (trodAll_cons_mk (Below.trod Try.laidOut (by kernel_rfl) (of_decide_eq_true (by kernel_rfl)) k1 bel lt1) trodAll_mk0)), rfl, bel.frame _, fun h => by cases h⟩

theorem over : Rows.packOneRow.holds Try.pinned (OpenSpec.ofChange Rows.packOneSpec) :=
  OpenClaim.holds_of_wide 4 Try.f4 rfl rfl rfl rfl rfl rfl rfl ⟨rfl, rfl, rfl, rfl, rfl⟩ rfl rfl rfl rfl rfl (by kernel_rfl) Try.func4 (by kernel_rfl)
    (of_decide_eq_true (by kernel_rfl)) (by unfold Func.isWrapper; first | (rw [if_pos (by decide +kernel)]; kernel_rfl) | (rw [if_neg (by decide +kernel)]; exact ⟨rfl, rfl⟩))
    (fun os started H enc _ => lifted os started H enc)



end packOne

/-- The statement. -/
theorem packOne_holds : Rows.PackOneSaid := packOne.over
#print axioms packOne_holds
end Go.Proofs.Ytmjcpcpcngpdjaa
