/- DiskCrash of the statements of layer 2, walked: true for every room, script and list of what is kept. -/
import Derived.Test.YtofgkbpopfgefaaDkS
import Derived.Test.YtofgkbpopfgefaaDnH
namespace Go.Proofs.Ytofgkbpopfgefaa
open Go.RowKit Go.Shelf
set_option maxRecDepth 8000

/-- A disk that was made behind w, some calls later. -/
structure Run (w : World) (p : Nat) (wr : World) (fv : Value) (ms : List FiM) (D : DkD) (k : Nat) : Prop where
  is : IsDk wr p fv ms D
  ok : DkOk D
  writes : D.writes ≤ k
  bel : Below w.heap.size w wr
  apart : ∀ j ∈ foot p fv ms, w.heap.size ≤ j

theorem Run.to {w : World} {p : Nat} {wr wr' : World} {fv fv' : Value} {ms ms' : List FiM} {D D' : DkD} {k k' : Nat} (h : Run w p wr fv ms D k) (ht : DkTo wr p fv ms wr' D' fv' ms') (ok : DkOk D') (hw : D'.writes ≤ k') : Run w p wr' fv' ms' D' k' :=
  ⟨ht.is, ok, hw, h.bel.trans (ht.kept.below h.bel.size (fun j e => h.apart j e)), fun j hj => by
    rcases ht.foot j hj with e | e
    · exact h.apart j e
    · exact Nat.le_trans h.bel.size e⟩

theorem Run.later {w : World} {p : Nat} {wr wr' : World} {fv : Value} {ms : List FiM} {D : DkD} {k : Nat} (h : Run w p wr fv ms D k) (hb : Below wr.heap.size wr wr') : Run w p wr' fv ms D k :=
  ⟨h.is.later hb, h.ok, h.writes, Below.step h.bel hb, h.apart⟩

theorem Run.free {w : World} {p : Nat} {wr : World} {fv : Value} {ms : List FiM} {D : DkD} {k : Nat} (h : Run w p wr fv ms D k) (j : Nat) (hj : j < w.heap.size) : j < wr.heap.size ∧ j ∉ foot p fv ms :=
  ⟨Nat.lt_of_lt_of_le hj h.bel.size, fun e => by have := h.apart j e; omega⟩

theorem off_writes (D : DkD) : D.off.writes = D.writes := by unfold DkD.off; split <;> rfl
theorem start_writes (D : DkD) (ks : List Int) : (D.start ks).writes = D.writes := by unfold DkD.start; split <;> rfl
theorem arm_writes (D : DkD) (n : Int) : (D.arm n).writes = D.writes := by unfold DkD.arm; split <;> rfl

theorem Try.opSize {o : OpK} : (Try.prog.info? 32).map (·.size) = some o.cells.length := by
  show _ = some 6
  kernel_rfl

set_option maxHeartbeats 4000000 in
theorem crash_walk (room : Int) (v kv : Value) (l : List OpK) (ks : List Int) (w : World) (hl : SeesOpsK w w.heap.size v l) (hll : l.length ≤ 140737488355328) (hk : SeesN w kv ks) (hkb : ks ≠ [] → ∀ j, kv.ownBlock = some j → j < w.heap.size) :
    Calls Try.prog 3 #[.int .i64 room, v, kv] w fun r w' => r = .returned (.bool true) ∧ Below w.heap.size w w' := by
  have HY : Hid _ := beyond_any room hl hll
  obtain ⟨⟨sa, sc, rfl, hsc, hscm, _⟩, _⟩ := id hl
  obtain ⟨ka, kc, rfl, hkc, hkm, _⟩ := id hk
  unfold maxLen at hscm hkm
  have HL : Hid (SeesOpsK w w.heap.size (.slice sa l.length sc) l ∧ SeesN w (.slice ka ks.length kc) ks ∧ (ks ≠ [] → ∀ j, (Value.slice ka ks.length kc).ownBlock = some j → j < w.heap.size)) := ⟨hl, hk, hkb⟩
  have HB : Hid (byd l = false → l.length < 2147483647 ∧ ∀ o ∈ l, o.p.length < 2147483647) := byd_false
  generalize byd l = bb at *
  clear hl hk hkb
  cases bb
  · obtain ⟨hl1, hl2⟩ := HB.out rfl
    have HL2 : Hid _ := hl2
    clear HB hl2
    go_enter Try.func3, Try.ntmps3
    go_wp2_with fail
    refine Calls.mono HY.out ?_
    rintro e w1 ⟨rfl, hb1⟩
    have H1 : Hid _ := hb1
    clear hb1 HY
    go_wp2_with fail
    refine Calls.mono (lives_yes w1) ?_
    rintro e w2 ⟨rfl, hb2⟩
    have H2 : Hid (Below w.heap.size w w2) := Below.step H1.out hb2
    clear hb2 H1
    by_cases hq : 0 ≤ room ∧ room ≤ 16777216
    · have HN : Hid _ := new_yes room w2 hq
      go_wp2_with fail
      refine Calls.mono HN.out ?_
      rintro e w3 ⟨rfl, hw3⟩
      have H3 : Hid (Run w w2.heap.size w3 (.slice none 0 0) [] (newD room) 0) := by
        rw [hw3]
        refine ⟨isDk_new w2 room, dkOk_new room hq.1 hq.2, by simp, Below.step H2.out (one_allocK _ _), fun j hj => ?_⟩
        simp [foot, Value.ownBlock] at hj
        rw [hj]
        exact H2.out.size
      have hp3 : w2.heap.size < w3.heap.size := by rw [hw3]; simp
      clear hw3 HN
      obtain ⟨p, hp⟩ : ∃ p, p = w2.heap.size := ⟨_, rfl⟩
      rw [← hp] at H3 hp3
      rw [← hp]
      clear hp H2
      go_wp2_with fail
      go_loopw [10] (fun vi wr => ∃ k : Nat, k ≤ l.length ∧ vi = .int .i64 k ∧ Hid (∃ fv ms D, Run w p wr fv ms D k)) (fun vi _ => l.length - (intOf vi).toNat)
      case atStart => exact ⟨0, Nat.zero_le _, rfl, ⟨_, _, _, H3.out⟩⟩
      case round =>
        obtain ⟨k, hk, rfl, HI⟩ := hrel
        obtain ⟨fv, ms, D, hrun⟩ := HI.out
        have HU : Hid _ := hrun
        have hpw := lt_of_block hrun.is.row
        clear hrun HI H3 hp3
        by_cases hlt : k < l.length
        · have hso : SeesOpsK wr w.heap.size (.slice sa l.length sc) l := HL.out.1.kept (Below.kept HU.out.bel) (fun j hj e => by omega)
          obtain ⟨⟨_, _, esl, _, _, h0 | ⟨b, off, e2, hb, hr⟩⟩, hgo⟩ := hso
          · rw [h0] at hlt; simp at hlt
          have e3 : sa = some ⟨b, off, none⟩ := by
            have := (Value.slice.inj esl).1
            rw [this]; exact e2
          subst e3
          have hrk : wr.rangeAt b (off + k * 6) l[k].cells := hr k hlt
          have c0 : wr.cell? ⟨b, off + k * 6, none⟩ = some (.int .i64 l[k].kind) := hrk 0 _ rfl
          have c4 : wr.cell? ⟨b, off + k * 6 + 4, none⟩ = some (.int .i64 l[k].n) := hrk 4 _ rfl
          have hg := hgo l[k] (List.getElem_mem hlt)
          have hpl : l[k].p.length ≤ 100000000000 := by have := HL2.out l[k] (List.getElem_mem hlt); omega
          have hsz6 : (Try.prog.info? 32).map (·.size) = some l[k].cells.length := Try.opSize
          have hwr : D.writes ≤ 4611686018427387904 := by have := HU.out.writes; omega
          have HGO : Hid (GoodOpK wr w.heap.size l[k] ∧ l[k].p.length ≤ 100000000000) := ⟨hg, hpl⟩
          have HRK : Hid _ := hrk
          generalize l[k] = o at *
          clear hr hgo hg hpl esl e2 hrk
          by_cases h9 : o.kind = 9
          · have hk9 : (o.kind == 9) = true := by simpa using h9
            have HAR : Hid _ := arm_any HU.out.is o.n
            clear h9
            go_wp2_with fail
            refine Calls.mono HAR.out ?_
            rintro e w4 ⟨rfl, ht4⟩
            have hu4 : Run w p w4 fv ms (D.arm o.n) k := HU.out.to ht4 (HU.out.ok.arm o.n HGO.out.1.n1) (by rw [arm_writes]; exact HU.out.writes)
            have hg4 : GoodOpK w4 w.heap.size o := HGO.out.1.kept ht4.kept (fun j hj => (HU.out.free j hj).2)
            have hr4 : w4.rangeAt b (off + k * 6) o.cells := fun j x hj => by
              have hc := HRK.out j x hj
              rw [World.cell?_of_block (ht4.kept.block b (World.block_lt_of_cell? wr ⟨b, off + k * 6 + j, none⟩ hc) (HU.out.free b hb).2)]
              exact hc
            have HAC : Hid _ := act_any hu4.is hu4.ok (by rw [arm_writes]; exact hwr) o w.heap.size hg4 HGO.out.2 (fun j hj => hu4.free j hj)
            have H4 : Hid _ := hu4
            have hp4 := lt_of_block hu4.is.row
            clear ht4 hu4 hg4 HAR c0 c4
            go_wp2_with (refine wpList_load_mid rfl 32 _ rfl b (off + k * 6) rfl o.cells _ hr4 Try.underlying32 rfl hsz6 ?_)
            refine Calls.mono HAC.out ?_
            rintro e w5 ⟨rfl, fv5, ms5, ht5⟩
            have H5 : Hid (Run w p w5 fv5 ms5 (actK (D.arm o.n) o).2 (k + 1)) := H4.out.to ht5 (actK_ok H4.out.ok o) (by have := actK_writes (D.arm o.n) o; have := H4.out.writes; omega)
            clear ht5 HAC
            go_wp2_with fail
            go_roundw
            case rel => exact ⟨k + 1, by omega, by go_num, ⟨_, _, _, H5.out⟩⟩
            case measure => simp [intOf]; omega
          · have hk9 : (o.kind == 9) = false := by simpa using h9
            have HAC : Hid _ := act_any HU.out.is HU.out.ok hwr o w.heap.size HGO.out.1 HGO.out.2 (fun j hj => HU.out.free j hj)
            have hr4 := HRK.out
            clear h9
            go_wp2_with (refine wpList_load_mid rfl 32 _ rfl b (off + k * 6) rfl o.cells _ hr4 Try.underlying32 rfl hsz6 ?_)
            refine Calls.mono HAC.out ?_
            rintro e w5 ⟨rfl, fv5, ms5, ht5⟩
            have H5 : Hid (Run w p w5 fv5 ms5 (actK D o).2 (k + 1)) := HU.out.to ht5 (actK_ok HU.out.ok o) (by have := actK_writes D o; have := HU.out.writes; omega)
            clear ht5 HAC c0 c4
            go_wp2_with fail
            go_roundw
            case rel => exact ⟨k + 1, by omega, by go_num, ⟨_, _, _, H5.out⟩⟩
            case measure => simp [intOf]; omega
        · obtain rfl : k = l.length := by omega
          have HIM : Hid _ := dImage_any HU.out.is HU.out.ok
          go_wp2_with fail
          refine Calls.mono HIM.out ?_
          rintro e w4 ⟨rfl, ⟨vs1, him⟩, hb4⟩
          have H4 : Hid (Run w p w4 fv ms D l.length ∧ ImgAt w4 wr.heap.size (.slice (some ⟨wr.heap.size, 0, none⟩) D.files.length D.files.length) D.files vs1 ∧ (∀ j ∈ foot p fv ms, j < wr.heap.size)) := ⟨HU.out.later hb4, him, fun j hj => HU.out.is.lt hj⟩
          have hp4 := lt_of_block H4.out.1.is.row
          clear him hb4 HIM HU
          have HOF : Hid _ := off_any H4.out.1.is
          go_wp2_with fail
          refine Calls.mono HOF.out ?_
          rintro e w5 ⟨rfl, ht5⟩
          have H5 : Hid (Run w p w5 fv ms D.off l.length ∧ ImgAt w5 wr.heap.size (.slice (some ⟨wr.heap.size, 0, none⟩) D.files.length D.files.length) D.files vs1 ∧ (∀ j ∈ foot p fv ms, j < wr.heap.size) ∧ DkOk D) := ⟨H4.out.1.to ht5 H4.out.1.ok.off (by rw [off_writes]; exact H4.out.1.writes), H4.out.2.1.kept ht5.kept (fun j e => .inl (H4.out.2.2 j e)), H4.out.2.2, H4.out.1.ok⟩
          clear ht5 HOF H4
          have hks5 : SeesN w5 (.slice ka ks.length kc) ks := HL.out.2.1.kept (Below.kept H5.out.1.bel) (fun hy j e e' => by have := HL.out.2.2 hy j e; omega)
          have HST : Hid _ := start_any H5.out.1.is H5.out.1.ok _ ks hks5 (fun hy j e => (H5.out.1.free j (HL.out.2.2 hy j e)).2)
          have hp5 := lt_of_block H5.out.1.is.row
          clear hks5
          go_wp2_with fail
          refine Calls.mono HST.out ?_
          rintro e w6 ⟨rfl, ms6, ht6⟩
          have H6 : Hid (Run w p w6 fv ms6 (D.off.start ks) l.length ∧ ImgAt w6 wr.heap.size (.slice (some ⟨wr.heap.size, 0, none⟩) D.files.length D.files.length) D.files vs1 ∧ DkOk D) := ⟨H5.out.1.to ht6 (H5.out.1.ok.start ks) (by rw [start_writes]; exact H5.out.1.writes), H5.out.2.1.kept ht6.kept (fun j e => .inl (H5.out.2.2.1 j e)), H5.out.2.2.2⟩
          have hp6 := lt_of_block H6.out.1.is.row
          clear ht6 HST H5
          have HIM : Hid _ := dImage_any H6.out.1.is H6.out.1.ok
          go_wp2_with fail
          refine Calls.mono HIM.out ?_
          rintro e w7 ⟨rfl, ⟨vs2, him⟩, hb7⟩
          obtain ⟨hon, hfs⟩ := off_start D ks
          rw [hfs] at him
          have H7 : Hid (Run w p w7 fv ms6 (D.off.start ks) l.length ∧ ImgAt w7 wr.heap.size (.slice (some ⟨wr.heap.size, 0, none⟩) D.files.length D.files.length) D.files vs1 ∧ ImgAt w7 w6.heap.size (.slice (some ⟨w6.heap.size, 0, none⟩) (lossF D.files ks).length (lossF D.files ks).length) (lossF D.files ks) vs2 ∧ DkOk D) := ⟨H6.out.1.later hb7, H6.out.2.1.kept (Below.kept hb7) (fun j e => .inr e), him, H6.out.2.2⟩
          have hp7 := lt_of_block H7.out.1.is.row
          have hO := on_any H7.out.1.is
          rw [hon] at hO
          have HO : Hid _ := hO
          have hll2 : (lossF D.files ks).length = D.files.length := by simp [lossF]
          rw [hfs, hll2]
          have HLL : Hid _ := hll2
          have hN64 := H7.out.2.2.2.few
          clear him hb7 HIM H6 hfs hon hO hll2
          generalize wr.heap.size = B1 at *
          generalize w6.heap.size = B2 at *
          obtain ⟨N, hN⟩ : ∃ N, N = D.files.length := ⟨_, rfl⟩
          rw [← hN] at hN64 ⊢
          have HN : Hid _ := hN
          clear hN
          go_wp2_with fail
          refine Calls.mono HO.out ?_
          rintro e w8 ⟨rfl, hw8⟩
          subst w8
          clear HO
          go_wp2_with fail
          go_loopw [13] (fun vi wx => ∃ i : Nat, i ≤ N ∧ vi = .int .i64 i ∧ Hid (∃ q, wx = w7.drewN q)) (fun vi _ => N - (intOf vi).toNat)
          case atStart => exact ⟨0, Nat.zero_le _, rfl, ⟨0, rfl⟩⟩
          case round =>
            obtain ⟨i, hi, rfl, HW⟩ := hrel
            have hbw : Below w7.heap.size w7 wr := by
              obtain ⟨q, rfl⟩ := HW.out
              exact below_drewN (Below.refl _ _) q
            have H8 : Hid (Run w p wr fv ms6 (D.off.start ks) l.length ∧ ImgAt wr B1 (.slice (some ⟨B1, 0, none⟩) D.files.length D.files.length) D.files vs1 ∧ ImgAt wr B2 (.slice (some ⟨B2, 0, none⟩) (lossF D.files ks).length (lossF D.files ks).length) (lossF D.files ks) vs2 ∧ DkOk D) := ⟨H7.out.1.later hbw, H7.out.2.1.kept (Below.kept hbw) (fun j e => .inr e), H7.out.2.2.1.kept (Below.kept hbw) (fun j e => .inr e), H7.out.2.2.2⟩
            clear hbw H7
            by_cases hlt : i < N
            · have hlt1 : i < D.files.length := by rw [← HN.out]; exact hlt
              have hlt2 : i < (lossF D.files ks).length := by rw [HLL.out]; exact hlt1
              obtain ⟨u1, _, a0, a1, a2, ho1⟩ := H8.out.2.1.cells i hlt1
              obtain ⟨u2, _, b0, b1, b2, ho2⟩ := H8.out.2.2.1.cells i hlt2
              have el : (lossF D.files ks)[i] = lossAt D.files[i] (ks.getD i 0) := by simp [lossF]
              rw [el] at b0 b2 ho2
              have hd := H8.out.2.2.2.durs _ (List.getElem_mem hlt1)
              have hsm : D.files[i].bytes.length ≤ 16777216 := by
                have := len_used (List.getElem_mem hlt1)
                have := H8.out.2.2.2.fits
                have := H8.out.2.2.2.r1
                omega
              obtain ⟨n0, hn0⟩ : ∃ n0, n0 = leftN D.files[i] (ks.getD i 0) := ⟨_, rfl⟩
              obtain ⟨hle, hlf⟩ := leftN_le D.files[i] (ks.getD i 0) hd.1 hd.2
              obtain ⟨x1, y1, hu1, hx1, hx2⟩ := own_shape (owns_mono ho1 (Nat.zero_le _))
              obtain ⟨x2, y2, hu2, _, _⟩ := own_shape (owns_mono ho2 (Nat.zero_le _))
              unfold maxLen at hx2
              simp only [lossAt] at b0 b2 ho2 hu2
              rw [← hn0] at b2 ho2 hu2 hle hlf
              have hlen2 : (D.files[i].bytes.take n0).length = n0 := by simp; omega
              rw [hlen2] at hu2
              have hs1 : Sees wr (.slice x1 n0 y1) (D.files[i].bytes.take n0) := by
                have h1 := owns_mono ho1 (Nat.zero_le _)
                rw [hu1] at h1
                have h2 := own_take h1 n0 hle
                exact hlen2 ▸ Sees.own (hlen2.symm ▸ h2)
              have hs2 : Sees wr (.slice x2 n0 y2) (D.files[i].bytes.take n0) := by rw [← hu2]; exact Sees.own ho2
              have HEQ : Hid (∀ wx, Below wr.heap.size wr wx → Calls Try.prog 18 #[.slice x2 n0 y2, .slice x1 n0 y1] wx fun e w' => e = .returned (.bool true) ∧ ∃ n, w' = wx.drewN n) := fun wx hwx => by
                have h1 := eqBytes_any _ _ _ _ wx (hs2.below hwx (Nat.le_refl _)) (hs1.below hwx (Nat.le_refl _))
                rw [decide_eq_true rfl] at h1
                exact h1
              have hd1 := hd.1
              have hd2 := hd.2
              rw [hu1] at a1
              rw [hu2] at b1
              generalize D.files[i].bytes.length = L at *
              generalize D.files[i].name = nm at *
              generalize D.files[i].dur = du at *
              have HSK : Hid (SeesN wr (.slice ka ks.length kc) ks) := HL.out.2.1.kept (Below.kept H8.out.1.bel) (fun hy j e e' => by have := HL.out.2.2 hy j e; omega)
              clear ho1 ho2 hs1 hs2 hu1 hu2 el hn0 hlen2 hlt2 hd
              by_cases hkk : i < ks.length
              · have hdk : decide ((i : Int) < (ks.length : Int)) = true := decide_eq_true (by omega)
                obtain ⟨_, _, e, _, _, h0 | ⟨b, off, e2, hc⟩⟩ := HSK.out
                · rw [h0] at hkk; simp at hkk
                have e3 : ka = some ⟨b, off, none⟩ := by
                  have := (Value.slice.inj e).1
                  rw [this]; exact e2
                have hck := hc i hkk
                subst e3
                clear hc e e2 HSK
                generalize ks.getD i 0 = kx at *
                obtain ⟨T, hT⟩ : ∃ T, T = min (max kx 0) ((L : Int) - du) := ⟨_, rfl⟩
                rw [← hT] at hlf
                have hT0 : 0 ≤ T := by omega
                have hT1 : T ≤ (L : Int) - du := by omega
                have HLF : Hid (∀ m : World, Calls Try.prog 17 #[.int .i64 (IntKind.i64.wrap ((L : Int) - du)), .int .i64 kx] m fun e w' => e = .returned (.int .i64 T) ∧ w' = m) := fun m => by
                  rw [wrapI _ (by omega) (by omega), hT]
                  exact left_any _ _ _ (by omega)
                have HTN : Hid (T + du = (n0 : Int)) := by show _ = _; omega
                clear hT hlf
                go_wp2_with fail
                go_quiet ((go_at_call 17; exact Calls.quiet_of_same (HLF.out _)))
                obtain ⟨wr2, hw2⟩ : ∃ wr2, wr2 = wr.drewN nq := ⟨_, rfl⟩
                rw [← hw2]
                have HW2 : Hid (Below wr.heap.size wr wr2 ∧ ∃ q, wr2 = w7.drewN q) := ⟨by rw [hw2]; exact below_drewN (Below.refl _ _) _, HW.out.choose + nq, by rw [← World.drewN_drewN, ← HW.out.choose_spec]; exact hw2⟩
                have a0' : wr2.cell? ⟨B1, i * 3, none⟩ = some (.string nm) := by rw [hw2]; exact a0
                have a1' : wr2.cell? ⟨B1, i * 3 + 1, none⟩ = some (.slice x1 L y1) := by rw [hw2]; exact a1
                have a2' : wr2.cell? ⟨B1, i * 3 + 2, none⟩ = some (.int .i64 du) := by rw [hw2]; exact a2
                have b0' : wr2.cell? ⟨B2, i * 3, none⟩ = some (.string nm) := by rw [hw2]; exact b0
                have b1' : wr2.cell? ⟨B2, i * 3 + 1, none⟩ = some (.slice x2 n0 y2) := by rw [hw2]; exact b1
                have b2' : wr2.cell? ⟨B2, i * 3 + 2, none⟩ = some (.int .i64 n0) := by rw [hw2]; exact b2
                clear hw2 a0 a1 a2 b0 b1 b2
                go_upto_region 26 with fail
                rw [HTN.out]
                have hdn : decide (du < 0) = false := decide_eq_false (by omega)
                have hdl : decide ((n0 : Int) > (L : Int)) = false := decide_eq_false (by omega)
                have hny : n0 ≤ y1 := by omega
                go_wp2_with fail
                go_quiet ((go_at_call 18; exact Calls.quiet_of (HEQ.out _ (below_drewN HW2.out.1 _))))
                go_wp2_with fail
                go_roundw
                case rel => exact ⟨i + 1, by omega, by go_num, ⟨HW2.out.2.choose + nq, by rw [← World.drewN_drewN, ← HW2.out.2.choose_spec]⟩⟩
                case measure => simp [intOf]; omega
              · have hdk : decide ((i : Int) < (ks.length : Int)) = false := decide_eq_false (by omega)
                have hk0 : ks.getD i 0 = 0 := by rw [List.getD_eq_getElem?_getD, List.getElem?_eq_none (by omega)]; rfl
                rw [hk0] at hlf
                have hdn0 : du = (n0 : Int) := by omega
                have HTN : Hid (du = (n0 : Int)) := hdn0
                clear hlf hk0 HSK hdn0
                go_upto_region 26 with fail
                rw [HTN.out]
                have hdn : decide (du < 0) = false := decide_eq_false (by omega)
                have hdl : decide ((n0 : Int) > (L : Int)) = false := decide_eq_false (by omega)
                have hny : n0 ≤ y1 := by omega
                go_wp2_with fail
                go_quiet ((go_at_call 18; exact Calls.quiet_of (HEQ.out _ (below_drewN (Below.refl _ _) _))))
                go_wp2_with fail
                go_roundw
                case rel => exact ⟨i + 1, by omega, by go_num, ⟨HW.out.choose + nq, by rw [← World.drewN_drewN, ← HW.out.choose_spec]⟩⟩
                case measure => simp [intOf]; omega
            · obtain rfl : i = N := by omega
              go_wp2_with fail
              go_ret
              exact ⟨rfl, H8.out.1.bel⟩
    · have HN : Hid _ := new_no room w2 hq
      have hor : decide (room < 0) = true ∨ (decide (room < 0) = false ∧ decide (room > 16777216) = true) := by
        by_cases h0 : room < 0
        · exact .inl (decide_eq_true h0)
        · exact .inr ⟨decide_eq_false h0, decide_eq_true (by omega)⟩
      clear hq
      go_wp2_with fail
      refine Calls.mono HN.out ?_
      rintro e w3 ⟨rfl, hw3⟩
      subst w3
      rcases hor with hd | ⟨hd, hd2⟩
      · go_wp2_with fail
        go_ret
        exact ⟨rfl, H2.out⟩
      · go_wp2_with fail
        go_ret
        exact ⟨rfl, H2.out⟩
  · go_enter Try.func3, Try.ntmps3
    go_wp2_with fail
    refine Calls.mono HY.out ?_
    rintro e w1 ⟨rfl, hb1⟩
    have H1 : Hid _ := hb1
    clear hb1 HY
    go_wp2_with fail
    go_ret
    exact ⟨rfl, H1.out⟩
end Go.Proofs.Ytofgkbpopfgefaa
