/- Too many files? (lagoonlaw02.files.) -/
import Derived.Test.YtnapgjojhkghfaaReCJ
import Derived.Test.YtnapgjojhkghfaaReDJ
namespace Go.Proofs.Ytnapgjojhkghfaa
open Go.RowKit Go.Shelf
set_option maxRecDepth 8000

def flSz (o : FlK) : Nat := o.p.length + o.name.size
def flsSz : List FlK → Nat
  | [] => 0
  | o :: l => flSz o + flsSz l

theorem flsSz_append (a b : List FlK) : flsSz (a ++ b) = flsSz a + flsSz b := by
  induction a with
  | nil => simp [flsSz]
  | cons x l ih => simp [flsSz, ih]; omega

theorem flsSz_next {l : List FlK} {k : Nat} (h : k < l.length) : flsSz (l.take (k + 1)) = flsSz (l.take k) + flSz l[k] := by
  rw [List.take_succ_eq_append_getElem h, flsSz_append]; simp [flsSz]
theorem flsSz_mem {l : List FlK} {o : FlK} (h : o ∈ l) : flSz o ≤ flsSz l := by
  induction l with
  | nil => simp at h
  | cons x l ih =>
    rcases List.mem_cons.1 h with e | e
    · subst e; simp [flsSz]
    · have := ih e; simp [flsSz]; omega
theorem flsSz_take (l : List FlK) (k : Nat) : flsSz (l.take k) ≤ flsSz l := by
  have : flsSz (l.take k ++ l.drop k) = flsSz (l.take k) + flsSz (l.drop k) := flsSz_append _ _
  rw [List.take_append_drop] at this
  omega

def fbd (l : List FlK) : Bool := decide (2147483647 ≤ l.length + flsSz l)
theorem fbd_false {l : List FlK} (h : fbd l = false) : l.length < 2147483647 ∧ ∀ o ∈ l, o.p.length < 2147483647 := by
  have h1 := of_decide_eq_false h
  refine ⟨by omega, fun o ho => ?_⟩
  have := flsSz_mem ho
  unfold flSz at this
  omega

set_option maxHeartbeats 1000000 in
theorem files_any {w : World} {n : Nat} {v : Value} {l : List FlK} (h : SeesFls w n v l) (hll : l.length ≤ 140737488355328) :
    Calls Try.prog 11 #[v] w fun e w' => e = .returned (.bool (fbd l)) ∧ Below w.heap.size w w' := by
  obtain ⟨bb, hbb⟩ : ∃ bb, bb = fbd l := ⟨_, rfl⟩
  rw [← hbb]
  have HBB : Hid _ := hbb
  clear hbb
  obtain ⟨⟨a, c, rfl, h1, h2, h3⟩, h4⟩ := h
  unfold maxLen at h2
  have H3 : Hid _ := h3
  have H4 : Hid _ := h4
  clear h3 h4
  go_enter Try.func11, Try.ntmps11
  go_wp2_with fail
  go_loopw [3, 4] (fun vn vi wr => ∃ k : Nat, k ≤ l.length ∧ vi = .int .i64 k ∧ vn = .int .i64 (l.length + flsSz (l.take k) : Nat) ∧ Hid (l.length + flsSz (l.take k) ≤ 1000000000000000) ∧ Hid (∃ q, wr = w.drewN q)) (fun _ vi _ => l.length - (intOf vi).toNat)
  case atStart => exact ⟨0, Nat.zero_le _, rfl, by simp [flsSz], by show _ ≤ _; simp [flsSz]; omega, ⟨0, rfl⟩⟩
  case round =>
    obtain ⟨k, hk, rfl, rfl, HS, HW⟩ := hrel
    obtain ⟨q, rfl⟩ := HW.out
    obtain ⟨N, hN⟩ : ∃ N, N = l.length + flsSz (l.take k) := ⟨_, rfl⟩
    rw [← hN] at HS ⊢
    have hN1 := HS.out
    have HNN : Hid _ := hN
    clear hN HS
    by_cases hlt : k < l.length
    · have hd1 : decide ((k : Int) < (l.length : Int)) = true := decide_eq_true (by omega)
      by_cases hn2 : (N : Int) < 2147483647
      · have hd2 : decide ((N : Int) < 2147483647) = true := decide_eq_true hn2
        rcases H3.out with e | ⟨b, off, rfl, hb, hr⟩
        · rw [e] at hlt; simp at hlt
        · have hg := H4.out l[k] (List.getElem_mem hlt)
          have hrk := hr k hlt
          have c1 : w.cell? ⟨b, off + k * 3, none⟩ = some (.string l[k].name) := by
            have h7 := hrk 0 _ rfl
            exact h7
          have c3 : w.cell? ⟨b, off + k * 3 + 1, none⟩ = some (.slice l[k].pa l[k].p.length l[k].pc) := hrk 1 _ rfl
          have hs1 := hg.pl
          have hs3 := hg.nl
          have e1 := flsSz_next hlt
          unfold flSz at e1
          have HE : Hid _ := e1
          clear e1 hr hrk hg
          generalize l[k] = o at *
          go_wp2_with fail
          go_quiet (fail)
          have hww : (N : Int) + o.p.length + o.name.size = ((N + (o.p.length + o.name.size) : Nat) : Int) := by omega
          rw [hww]
          obtain ⟨M, hM⟩ : ∃ M, M = N + (o.p.length + o.name.size) := ⟨_, rfl⟩
          rw [← hM]
          have HM : Hid (M = l.length + flsSz (l.take (k + 1)) ∧ M ≤ 1000000000000000) := ⟨by rw [hM, HE.out, HNN.out]; omega, by omega⟩
          clear hM hww c1 c3 hs1 hs3 HE
          go_wp2_with fail
          go_roundw
          case rel => exact ⟨k + 1, by omega, by go_num, by rw [HM.out.1], by rw [← HM.out.1]; exact HM.out.2, ⟨_, rfl⟩⟩
          case measure => simp [intOf]; omega
      · have hd2 : decide ((N : Int) < 2147483647) = false := decide_eq_false hn2
        obtain rfl : bb = true := by
          rw [HBB.out]
          have := flsSz_take l k
          have := HNN.out
          exact decide_eq_true (by omega)
        go_wp2_with fail
        go_ret
        exact ⟨rfl, below_drewN (Below.refl _ _) _⟩
    · have hd1 : decide ((k : Int) < (l.length : Int)) = false := decide_eq_false (by omega)
      have hkl : k = l.length := by omega
      have hN2 : N = l.length + flsSz l := by rw [HNN.out, hkl, List.take_length]
      obtain rfl : bb = decide ((2147483647 : Int) ≤ (N : Int)) := by
        rw [HBB.out]
        unfold fbd
        rw [← hN2]
        congr 1
        apply propext
        omega
      clear hN2 hkl
      go_wp2_with fail
      go_ret
      exact ⟨rfl, below_drewN (Below.refl _ _) _⟩
end Go.Proofs.Ytnapgjojhkghfaa

/- DiskFrom, walked. -/
namespace Go.Proofs.Ytnapgjojhkghfaa
open Go.RowKit Go.Shelf
set_option maxRecDepth 8000

theorem from_bad (room : Int) (v : Value) (w : World) (hq : ¬ (0 ≤ room ∧ room ≤ 16777216)) : Calls Try.prog 12 #[.int .i64 room, v] w fun e w' => e = .returned (.tuple #[.pointer none, .int .i64 1]) ∧ w' = w := by
  by_cases h0 : room < 0
  · have h1 : decide (room < 0) = true := decide_eq_true h0
    go_enter Try.func12, Try.ntmps12
    go_wp2_with fail
    go_ret2
    exact ⟨rfl, rfl⟩
  · have h1 : decide (room < 0) = false := decide_eq_false h0
    have h2 : decide (room > 16777216) = true := decide_eq_true (by omega)
    go_enter Try.func12, Try.ntmps12
    go_wp2_with fail
    go_ret2
    exact ⟨rfl, rfl⟩

theorem refFrom_bad (room : Int) (v : Value) (w : World) (hq : ¬ (0 ≤ room ∧ room ≤ 16777216)) : Calls Try.prog 13 #[.int .i64 room, v] w fun e w' => e = .returned (.tuple #[.pointer none, .int .i64 1]) ∧ w' = w := by
  have HN : Hid _ := refNew_no room w hq
  go_enter Try.func13, Try.ntmps13
  go_wp2_with fail
  refine Calls.mono HN.out ?_
  rintro e w1 ⟨rfl, hw1⟩
  subst w1
  go_wp2_with fail
  go_ret2
  exact ⟨rfl, rfl⟩

theorem SeesFls.kept {w w' : World} {S : Nat → Prop} {n : Nat} {v : Value} {l : List FlK} (h : SeesFls w n v l) (hk : Kept w w' S) (hS : ∀ k, k < n → ¬ S k) : SeesFls w' n v l := by
  obtain ⟨⟨a, c, rfl, h1, h2, h3⟩, h4⟩ := h
  refine ⟨⟨a, c, rfl, h1, h2, ?_⟩, fun o ho => (h4 o ho).kept hk hS⟩
  rcases h3 with h3 | ⟨b, off, rfl, hb, h3⟩
  · exact .inl h3
  · refine .inr ⟨b, off, rfl, hb, fun i hi j x hj => ?_⟩
    have hc := h3 i hi j x hj
    rw [World.cell?_of_block (hk.block b (World.block_lt_of_cell? w ⟨b, off + i * 3 + j, none⟩ hc) (hS b hb))]
    exact hc

theorem SeesFls.mono {w : World} {n n' : Nat} {v : Value} {l : List FlK} (h : SeesFls w n v l) (hn : n ≤ n') : SeesFls w n' v l := by
  obtain ⟨⟨a, c, rfl, h1, h2, h3⟩, h4⟩ := h
  refine ⟨⟨a, c, rfl, h1, h2, ?_⟩, fun o ho => ⟨(h4 o ho).see, (h4 o ho).pl, (h4 o ho).nl, fun hy k e => Nat.lt_of_lt_of_le ((h4 o ho).pb hy k e) hn, (h4 o ho).d0, (h4 o ho).d1⟩⟩
  rcases h3 with h3 | ⟨b, off, rfl, hb, h3⟩
  · exact .inl h3
  · exact .inr ⟨b, off, rfl, by omega, h3⟩

/-- From of both: a disk each, alike. -/
theorem takeL_files (D : DkD) (fs : List FiD) : (takeL D fs).2.room = D.room ∧ (takeL D fs).2.on = D.on ∧ (takeL D fs).2.armed = D.armed ∧ (takeL D fs).2.writes = D.writes := by
  induction fs generalizing D with
  | nil => exact ⟨rfl, rfl, rfl, rfl⟩
  | cons f fs ih =>
    unfold takeL
    split
    · exact ih _
    · exact ⟨rfl, rfl, rfl, rfl⟩

theorem both_from {w w2 w3 w4 : World} {p q : Nat} {room : Int} {fs : List FiD} {fv rv : Value} {ms : List FiM} {vs : List Value} (hb : Below w.heap.size w w2) (hr : Run w2 p w3 fv ms (takeL (newD room) fs).2 0) (hs : RunR w3 q w4 rv vs (rdOf (takeL (newD room) fs).2 room)) : Both w w4 p q (takeL (newD room) fs).2 (rdOf (takeL (newD room) fs).2 room) 0 := by
  obtain ⟨e1, e2, e3, e4⟩ := takeL_files (newD room) fs
  have s1 := hb.size
  have s2 := hr.bel.size
  refine ⟨⟨fv, ms, rv, vs, hr.is.later hs.bel, hs.is, fun j hj hm => ?_, fun j hj => ?_, fun j hj => ?_⟩, hr.ok, (fun e => by rw [e2] at e; cases e), ⟨rfl, e1.symm, e2.symm, e4.symm, .inl ⟨rfl, e3⟩⟩, by show (0 : Int) ≤ 9223372036854775807; decide, hr.writes, Below.step hb (Below.step hr.bel hs.bel)⟩
  · have h1 := hr.is.lt hj
    have h2 := hs.apart j hm
    omega
  · have := hr.apart j hj
    omega
  · have := hs.apart j hj
    omega

set_option maxHeartbeats 4000000 in
theorem from_walk (room : Int) (fvv v : Value) (fl : List FlK) (l : List OpK) (w : World) (hfl : SeesFls w w.heap.size fvv fl) (hfll : fl.length ≤ 140737488355328) (hl : SeesOpsK w w.heap.size v l) (hll : l.length ≤ 140737488355328) :
    Calls Try.prog 4 #[.int .i64 room, fvv, v] w fun r w' => r = .returned (.bool true) ∧ Below w.heap.size w w' := by
  have HY : Hid _ := beyond_any room hl hll
  obtain ⟨⟨sa, sc, rfl, hsc, hscm, _⟩, _⟩ := id hl
  unfold maxLen at hscm
  have HL : Hid (SeesOpsK w w.heap.size (.slice sa l.length sc) l) := hl
  have HB : Hid (byd l = false → l.length < 2147483647 ∧ ∀ o ∈ l, o.p.length < 2147483647) := byd_false
  obtain ⟨⟨ta, tc, rfl, htc, htcm, _⟩, _⟩ := id hfl
  have HFL : Hid (SeesFls w w.heap.size (.slice ta fl.length tc) fl) := hfl
  unfold maxLen at htcm
  generalize byd l = bb at *
  clear hl hfl
  cases bb
  · obtain ⟨hl1, hl2⟩ := HB.out rfl
    have HL2 : Hid _ := hl2
    clear HB hl2
    go_enter Try.func4, Try.ntmps4
    go_wp2_with fail
    refine Calls.mono HY.out ?_
    rintro e w1 ⟨rfl, hb1⟩
    have HFI : Hid _ := files_any (SeesFls.kept HFL.out (Below.kept hb1) (fun k hk e => by omega)) hfll
    have H1 : Hid _ := hb1
    clear hb1 HY
    generalize fbd fl = fb at *
    go_wp2_with fail
    refine Calls.mono HFI.out ?_
    rintro e w2 ⟨rfl, hb2⟩
    have H2 : Hid (Below w.heap.size w w2) := Below.step H1.out hb2
    clear hb2 H1 HFI
    cases fb
    · by_cases hq : 0 ≤ room ∧ room ≤ 16777216
      · have HN : Hid _ := from_any (w := w2) room (.slice ta fl.length tc) fl (SeesFls.mono (SeesFls.kept HFL.out (Below.kept H2.out) (fun k hk e => by omega)) H2.out.size) hq.1 hq.2
        obtain ⟨r, hr⟩ : ∃ r, r = takeL (newD room) (fl.map FlK.fi) := ⟨_, rfl⟩
        rw [← hr] at HN
        have HRR : Hid _ := hr
        clear hr
        go_wp2_with fail
        refine Calls.mono HN.out ?_
        rintro e w3 (⟨hr0, rfl, fv, ms, hrun⟩ | ⟨hr0, rfl, hb3⟩)
        · have HRU : Hid _ := hrun
          have HR0 : Hid _ := hr0
          have HN2 : Hid _ := refFrom_any (w := w3) (n := w.heap.size) room (.slice ta fl.length tc) fl (SeesFls.kept HFL.out (Below.kept (Below.step H2.out hrun.bel)) (fun k hk e => by omega)) (by have := H2.out.size; have := hrun.bel.size; omega) hq.1 hq.2
          rw [← HRR.out] at HN2
          clear hrun hr0 HN
          go_wp2_with fail
          refine Calls.mono HN2.out ?_
          rintro e w4 (⟨_, rfl, rv, vs, hrn⟩ | ⟨hne, _⟩)
          · have HBO : Hid (Both w w4 w2.heap.size w3.heap.size r.2 (rdOf r.2 room) 0) := by
              have h7 := HRU.out
              have h8 := hrn
              rw [HRR.out] at h7 h8 ⊢
              exact both_from H2.out h7 h8
            obtain ⟨p, hp⟩ : ∃ p, p = w2.heap.size := ⟨_, rfl⟩
            obtain ⟨q, hq2⟩ : ∃ q, q = w3.heap.size := ⟨_, rfl⟩
            rw [← hp, ← hq2] at HBO
            rw [← hp, ← hq2]
            clear hp hq2 hrn HN2 HRU H2
            go_wp2_with fail
            go_loopw [11] (fun vi wr => ∃ k : Nat, k ≤ l.length ∧ vi = .int .i64 k ∧ Hid (∃ D R, Both w wr p q D R k)) (fun vi _ => l.length - (intOf vi).toNat)
            case atStart => exact ⟨0, Nat.zero_le _, rfl, ⟨_, _, HBO.out⟩⟩
            case round =>
              obtain ⟨k, hk, rfl, HI⟩ := hrel
              obtain ⟨D, R, hB⟩ := HI.out
              have HU : Hid _ := hB
              clear hB HI HBO
              by_cases hlt : k < l.length
              · obtain ⟨b, off, rfl, hop⟩ := op_at HL.out rfl k hlt
                have hpl : l[k].p.length ≤ 100000000000 := by have := HL2.out l[k] (List.getElem_mem hlt); omega
                have hsz6 : (Try.prog.info? 36).map (·.size) = some l[k].cells.length := Try.opSize
                generalize l[k] = o at *
                have hr := (hop wr HU.out.bel).1
                have HO : Hid _ := step_any HU.out (by omega) o (hop wr HU.out.bel).2 hpl
                clear hop hpl
                go_wp2_with (refine wpList_load_mid rfl 36 _ rfl b (off + k * 6) rfl o.cells _ hr Try.underlying36 rfl hsz6 ?_)
                refine Calls.mono HO.out ?_
                rintro e w5 ⟨rfl, D5, R5, hB5⟩
                have H5 : Hid _ := hB5
                clear hB5 hr HO hsz6
                go_wp2_with fail
                go_roundw
                case rel => exact ⟨k + 1, by omega, by go_num, ⟨D5, R5, H5.out⟩⟩
                case measure => simp [intOf]; omega
              · obtain rfl : k = l.length := by omega
                have HAL : Hid _ := alike_any HU.out (by omega)
                go_wp2_with fail
                refine Calls.mono HAL.out ?_
                rintro e w5 ⟨rfl, hb5⟩
                have H5 : Hid (Below w.heap.size w w5) := Below.step HU.out.bel hb5
                clear hb5 HAL
                go_wp2_with fail
                go_ret
                exact ⟨rfl, H5.out⟩
          · exact absurd HR0.out hne
        · have HR0 : Hid _ := hr0
          have HB3 : Hid _ := hb3
          have HN2 : Hid _ := refFrom_any (w := w3) (n := w.heap.size) room (.slice ta fl.length tc) fl (SeesFls.kept HFL.out (Below.kept (Below.step H2.out hb3)) (fun k hk e => by omega)) (by have := H2.out.size; have := hb3.size; omega) hq.1 hq.2
          rw [← HRR.out] at HN2
          generalize r.1 = E at *
          clear hb3 hr0 HN
          go_wp2_with fail
          refine Calls.mono HN2.out ?_
          rintro e w4 (⟨h0, _⟩ | ⟨_, rfl, hb4⟩)
          · exact absurd h0 HR0.out
          · have HB4 : Hid (Below w.heap.size w w4) := Below.step H2.out (Below.step HB3.out hb4)
            clear hb4 HN2
            go_wp2_with fail
            refine Calls.mono (lives_yes w4) ?_
            rintro e w5 ⟨rfl, hb5⟩
            have H5 : Hid (Below w.heap.size w w5) := Below.step HB4.out hb5
            clear hb5
            go_wp2_with fail
            go_ret
            exact ⟨rfl, H5.out⟩
      · have HN : Hid _ := from_bad room (.slice ta fl.length tc) w2 hq
        have HN2 : Hid _ := refFrom_bad room (.slice ta fl.length tc) w2 hq
        go_wp2_with fail
        refine Calls.mono HN.out ?_
        rintro e w3 ⟨rfl, hw3⟩
        subst w3
        go_wp2_with fail
        refine Calls.mono HN2.out ?_
        rintro e w3 ⟨rfl, hw3⟩
        subst w3
        go_wp2_with fail
        refine Calls.mono (lives_yes w2) ?_
        rintro e w3 ⟨rfl, hb3⟩
        have H3 : Hid (Below w.heap.size w w3) := Below.step H2.out hb3
        clear hb3
        go_wp2_with fail
        go_ret
        exact ⟨rfl, H3.out⟩
    · go_wp2_with fail
      go_ret
      exact ⟨rfl, H2.out⟩
  · go_enter Try.func4, Try.ntmps4
    go_wp2_with fail
    refine Calls.mono HY.out ?_
    rintro e w1 ⟨rfl, hb1⟩
    have H1 : Hid _ := hb1
    clear hb1
    go_wp2_with fail
    go_ret
    exact ⟨rfl, H1.out⟩
end Go.Proofs.Ytnapgjojhkghfaa
