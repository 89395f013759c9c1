/- WatchCalls' walk. -/
import Derived.Test.YtkcapiblicfboaaGreatDoorWbFJ
import Derived.Test.YtkcapiblicfboaaGreatDoorWaOJ
namespace Go.Proofs.YtkcapiblicfboaaGreatDoor
open Go.RowKit Go.Shelf
set_option maxRecDepth 8000
set_option linter.unusedSimpArgs false

theorem i64_and1w (n : Int) : bits .and .i64 n 1 = n % 2 := by
  have h1 : (BitVec.ofInt 64 1).toNat = 2 ^ 1 - 1 := by decide
  have key : (BitVec.ofInt 64 n &&& BitVec.ofInt 64 1).toNat = (n % ((2 ^ 64 : Nat) : Int)).toNat % 2 ^ 1 := by
    rw [BitVec.toNat_and, BitVec.toNat_ofInt, h1, Nat.and_two_pow_sub_one_eq_mod]
  show IntKind.i64.wrap ((BitVec.ofInt 64 n &&& BitVec.ofInt 64 1).toNat : Nat) = n % 2
  rw [key, IntKind.wrap_i64]
  omega

/-- Four new boards, and a new Bag. -/
theorem wk_start {w wr : World} {xa xb g b0 b1 m0 m1 c0 c1 : Nat} (h0 : Bo wr b0 m0 (.slice none 0 0) [] []) (h1 : Bo wr b1 m1 (.slice none 0 0) [] []) (r0 : Rb wr c0 (.slice none 0 0) []) (r1 : Rb wr c1 (.slice none 0 0) [])
    (ba : wr.heap[xa]? = some (.cells #[.pointer (some ⟨b0, 0, none⟩), .pointer (some ⟨b1, 0, none⟩)] 27 (0, 0))) (bb : wr.heap[xb]? = some (.cells #[.pointer (some ⟨c0, 0, none⟩), .pointer (some ⟨c1, 0, none⟩)] 30 (0, 0)))
    (hg : wr.heap[g]? = some (.cells (bagWF nilB nilB) 54 (0, 0))) (hlo : w.heap.size ≤ m0 ∧ m0 < b0 ∧ b0 < m1 ∧ m1 < b1 ∧ b1 < c0 ∧ c0 < c1 ∧ c1 < g) (hB : Below w.heap.size w wr) :
    ∃ D, Wk w wr xa xb g D (fun _ => []) (fun _ => []) nilB nilB [] [] [] [] := by
  have no : ∀ k, ¬ (Value.slice none 0 0).ownBlock = some k := fun k e => by cases e
  refine ⟨⟨fun p => if p = 0 then b0 else b1, fun p => if p = 0 then m0 else m1, fun _ => .slice none 0 0, fun p => if p = 0 then c0 else c1, fun _ => .slice none 0 0⟩, fun p hp => ?_, fun p hp => ?_, fun p q hp hq hne k hf hf2 => ?_, fun p q hp hq hne k hf hf2 => ?_, fun p q hp hq k hf hf2 => ?_, fun p hp k hf => ?_, fun _ _ => Wats.nil, fun _ _ => Wats.nil, ba, bb, ⟨hg, World.ownsRow_nil _ _ _ _, World.ownsRow_nil _ _ _ _⟩, by omega, ⟨fun _ => [], fun j hj => by simp at hj⟩, ⟨fun _ => [], fun j hj => by simp at hj⟩, fun i j hi => by simp at hi, fun i j hi => by simp at hi, fun x hx => by simp at hx, fun x hx => by simp at hx, fun k hk => by obtain ⟨j, hj, _⟩ := hk; simp at hj, fun k hk => by obtain ⟨j, hj, _⟩ := hk; simp at hj, hB⟩
  · by_cases e : p = 0
    · simp only [if_pos e]; exact h0
    · simp only [if_neg e]; exact h1
  · by_cases e : p = 0
    · simp only [if_pos e]; exact r0
    · simp only [if_neg e]; exact r1
  · simp only [WcB.fa, Ft, no, or_false] at hf hf2
    split at hf <;> split at hf2 <;> omega
  · simp only [WcB.fr, FtR, no, or_false] at hf hf2
    split at hf <;> split at hf2 <;> omega
  · simp only [WcB.fa, WcB.fr, Ft, FtR, no, or_false] at hf hf2
    split at hf <;> split at hf2 <;> omega
  · simp only [WcB.fa, WcB.fr, Ft, FtR, no, or_false] at hf
    by_cases e : p = 0
    · simp only [if_pos e] at hf; omega
    · simp only [if_neg e] at hf; omega

theorem Wk.ca {w wr : World} {xa xb g : Nat} {D : WcB} {lA lR : Nat → List WaT} {wv fv : Value} {bs cs : List Value} {ps qs : List Rw} (h : Wk w wr xa xb g D lA lR wv fv bs cs ps qs) {p : Nat} (hp : p < 2) : wr.cell? ⟨xa, p, none⟩ = some (.pointer (some ⟨D.b p, 0, none⟩)) ∧ wr.cell? ⟨xb, p, none⟩ = some (.pointer (some ⟨D.c p, 0, none⟩)) := by
  rw [cell_of_row wr xa p _ _ _ h.ba, cell_of_row wr xb p _ _ _ h.bb]
  rcases (show p = 0 ∨ p = 1 by omega) with rfl | rfl <;> exact ⟨rfl, rfl⟩

set_option maxHeartbeats 8000000 in
theorem calls_walk {w : World} {sv : Value} {sc : List StT} (hsc : SeesSt w sv sc) (hscl : sc.length ≤ 140737488355328) : Calls Tryz.prog 3 #[sv] w fun e w' => e = .returned (.bool true) ∧ Below w.heap.size w w' := by
  have HL : Hid _ := long18 hsc hscl
  have HS : Hid (SeesSt w sv sc) := hsc
  obtain ⟨so, sp, rfl, hsp, hsx⟩ := hsc
  have HX : Hid (sc ≠ [] → ∃ b off, so = some ⟨b, off, none⟩ ∧ ∀ i s, sc[i]? = some s → ∀ j u, s.cells[j]? = some u → w.cell? ⟨b, off + i * 7 + j, none⟩ = some u) := hsx
  clear hsx
  go_enter Tryz.func3, Tryz.ntmps3
  go_wp2_with fail
  refine Calls.mono HL.out ?_
  rintro e w1 ⟨bl, rfl, hbl, hB1⟩
  have HB1 : Hid (Below w.heap.size w w1) := hB1
  clear HL hB1
  cases bl
  · have hfew := hbl rfl
    clear hbl
    have HF : Hid (∀ s ∈ sc, s.few) := hfew.2
    replace hscl := hfew.1
    clear hfew
    go_wp2_with fail
    go_at_call 5
    refine Calls.mono (lives18 w1) ?_
    rintro e w2 ⟨rfl, hB2⟩
    have HB2 : Hid (Below w.heap.size w w2) := HB1.out.trans (hB2.mono HB1.out.size)
    clear HB1 hB2
    go_wp2_with fail
    go_at_call 6
    refine Calls.mono (newB_any w2) ?_
    rintro e w3 ⟨rfl, h3, hB3⟩
    obtain ⟨b0, hb0⟩ : ∃ b, b = w2.heap.size + 1 := ⟨_, rfl⟩
    rw [← hb0]
    have HA : Hid (∃ m0, Bo w3 b0 m0 (.slice none 0 0) [] [] ∧ w.heap.size ≤ m0 ∧ m0 < b0 ∧ Below w.heap.size w w3) := ⟨_, hb0 ▸ h3, HB2.out.size, by omega, HB2.out.trans (hB3.mono HB2.out.size)⟩
    clear h3 hB3 HB2 hb0
    go_wp2_with fail
    go_at_call 6
    refine Calls.mono (newB_any w3) ?_
    rintro e w4 ⟨rfl, h4, hB4⟩
    obtain ⟨b1, hb1⟩ : ∃ b, b = w3.heap.size + 1 := ⟨_, rfl⟩
    rw [← hb1]
    have HC : Hid (∃ m0 m1, Bo w4 b0 m0 (.slice none 0 0) [] [] ∧ Bo w4 b1 m1 (.slice none 0 0) [] [] ∧ (w.heap.size ≤ m0 ∧ m0 < b0 ∧ b0 < m1 ∧ m1 < b1) ∧ Below w.heap.size w w4) := by
      obtain ⟨m0, h1, h2, h3, h5⟩ := HA.out
      exact ⟨m0, _, h1.below hB4, hb1 ▸ h4, ⟨h2, h3, h1.lt (.inl rfl), by omega⟩, h5.trans (hB4.mono h5.size)⟩
    clear h4 hB4 HA hb1
    have n5 : (w4.alloc (.cells #[.pointer (some ⟨b0, 0, none⟩), .pointer (some ⟨b1, 0, none⟩)] 27)).heap[w4.heap.size]? = some (.cells #[.pointer (some ⟨b0, 0, none⟩), .pointer (some ⟨b1, 0, none⟩)] 27 (0, 0)) := heap_alloc_new _ _
    have H5 : Hid ((∃ m0 m1, Bo (w4.alloc (.cells #[.pointer (some ⟨b0, 0, none⟩), .pointer (some ⟨b1, 0, none⟩)] 27)) b0 m0 (.slice none 0 0) [] [] ∧ Bo (w4.alloc (.cells #[.pointer (some ⟨b0, 0, none⟩), .pointer (some ⟨b1, 0, none⟩)] 27)) b1 m1 (.slice none 0 0) [] [] ∧ (w.heap.size ≤ m0 ∧ m0 < b0 ∧ b0 < m1 ∧ m1 < b1)) ∧ (w4.alloc (.cells #[.pointer (some ⟨b0, 0, none⟩), .pointer (some ⟨b1, 0, none⟩)] 27)).heap[w4.heap.size]? = some (.cells #[.pointer (some ⟨b0, 0, none⟩), .pointer (some ⟨b1, 0, none⟩)] 27 (0, 0)) ∧ Below w.heap.size w (w4.alloc (.cells #[.pointer (some ⟨b0, 0, none⟩), .pointer (some ⟨b1, 0, none⟩)] 27))) := by
      obtain ⟨m0, m1, h1, h2, h3, h4⟩ := HC.out
      have B : Below w4.heap.size w4 (w4.alloc (.cells #[.pointer (some ⟨b0, 0, none⟩), .pointer (some ⟨b1, 0, none⟩)] 27)) := (Below.refl _ _).alloc (Nat.le_refl _) _
      exact ⟨⟨m0, m1, h1.below B, h2.below B, h3⟩, n5, h4.trans (B.mono h4.size)⟩
    clear HC n5
    go_wp2_with fail
    go_at_call 7
    generalize (w4.alloc (.cells #[.pointer (some ⟨b0, 0, none⟩), .pointer (some ⟨b1, 0, none⟩)] 27)) = w5 at *
    generalize w4.heap.size = xa at *
    refine Calls.mono (rNew_any w5) ?_
    rintro e w6 ⟨rfl, h6, hB6⟩
    have H6 : Hid ((∃ m0 m1, Bo w6 b0 m0 (.slice none 0 0) [] [] ∧ Bo w6 b1 m1 (.slice none 0 0) [] [] ∧ (w.heap.size ≤ m0 ∧ m0 < b0 ∧ b0 < m1 ∧ m1 < b1 ∧ b1 < w5.heap.size)) ∧ w6.heap[xa]? = some (.cells #[.pointer (some ⟨b0, 0, none⟩), .pointer (some ⟨b1, 0, none⟩)] 27 (0, 0)) ∧ Below w.heap.size w w6 ∧ Rb w6 w5.heap.size (.slice none 0 0) []) := by
      obtain ⟨⟨m0, m1, h1, h2, h3⟩, h4, h5⟩ := H5.out
      exact ⟨⟨m0, m1, h1.below hB6, h2.below hB6, h3.1, h3.2.1, h3.2.2.1, h3.2.2.2, h2.lt (.inl rfl)⟩, box_later h4 hB6, h5.trans (hB6.mono h5.size), h6⟩
    generalize w5.heap.size = c0 at *
    clear h6 hB6 H5
    go_wp2_with fail
    go_at_call 7
    refine Calls.mono (rNew_any w6) ?_
    rintro e w7 ⟨rfl, h7, hB7⟩
    have H7 : Hid ((∃ m0 m1, Bo w7 b0 m0 (.slice none 0 0) [] [] ∧ Bo w7 b1 m1 (.slice none 0 0) [] [] ∧ (w.heap.size ≤ m0 ∧ m0 < b0 ∧ b0 < m1 ∧ m1 < b1 ∧ b1 < c0 ∧ c0 < w6.heap.size)) ∧ w7.heap[xa]? = some (.cells #[.pointer (some ⟨b0, 0, none⟩), .pointer (some ⟨b1, 0, none⟩)] 27 (0, 0)) ∧ Below w.heap.size w w7 ∧ Rb w7 c0 (.slice none 0 0) [] ∧ Rb w7 w6.heap.size (.slice none 0 0) []) := by
      obtain ⟨⟨m0, m1, h1, h2, h3⟩, h4, h5, h6⟩ := H6.out
      exact ⟨⟨m0, m1, h1.below hB7, h2.below hB7, h3.1, h3.2.1, h3.2.2.1, h3.2.2.2.1, h3.2.2.2.2, h6.lt (.inl rfl)⟩, box_later h4 hB7, h5.trans (hB7.mono h5.size), h6.below hB7, h7⟩
    generalize w6.heap.size = c1 at *
    clear h7 hB7 H6
    have B8 : Below w7.heap.size w7 (w7.alloc (.cells #[.pointer (some ⟨c0, 0, none⟩), .pointer (some ⟨c1, 0, none⟩)] 30)) := (Below.refl _ _).alloc (Nat.le_refl _) _
    have n8 : (w7.alloc (.cells #[.pointer (some ⟨c0, 0, none⟩), .pointer (some ⟨c1, 0, none⟩)] 30)).heap[w7.heap.size]? = some (.cells #[.pointer (some ⟨c0, 0, none⟩), .pointer (some ⟨c1, 0, none⟩)] 30 (0, 0)) := heap_alloc_new _ _
    have a8 := box_later H7.out.2.1 B8
    have ca0 := cell_of_row _ xa 0 _ _ _ a8
    have ca1 := cell_of_row _ xa 1 _ _ _ a8
    have la := lt_of_block a8
    have H9 : Hid (∃ D, Wk w ((w7.alloc (.cells #[.pointer (some ⟨c0, 0, none⟩), .pointer (some ⟨c1, 0, none⟩)] 30)).alloc (.cells (bagWF nilB nilB) 54)) xa w7.heap.size (w7.heap.size + 1) D (fun _ => []) (fun _ => []) nilB nilB [] [] [] []) := by
      obtain ⟨⟨m0, m1, h1, h2, h3⟩, h4, h5, h6, h7⟩ := H7.out
      have B9 : Below (w7.alloc (.cells #[.pointer (some ⟨c0, 0, none⟩), .pointer (some ⟨c1, 0, none⟩)] 30)).heap.size (w7.alloc (.cells #[.pointer (some ⟨c0, 0, none⟩), .pointer (some ⟨c1, 0, none⟩)] 30)) ((w7.alloc (.cells #[.pointer (some ⟨c0, 0, none⟩), .pointer (some ⟨c1, 0, none⟩)] 30)).alloc (.cells (bagWF nilB nilB) 54)) := (Below.refl _ _).alloc (Nat.le_refl _) _
      have B := B8.trans (B9.mono B8.size)
      have n9 := heap_alloc_new (w7.alloc (.cells #[.pointer (some ⟨c0, 0, none⟩), .pointer (some ⟨c1, 0, none⟩)] 30)) (.cells (bagWF nilB nilB) 54 (0, 0))
      rw [World.size_alloc] at n9
      have hc1 := h7.lt (.inl rfl)
      exact wk_start (h1.below B) (h2.below B) (h6.below B) (h7.below B) (box_later h4 B) (box_later n8 B9) n9 (by omega) (h5.trans (B.mono h5.size))
    clear H7 n8 B8 a8
    go_wp2
    generalize ((w7.alloc (.cells #[.pointer (some ⟨c0, 0, none⟩), .pointer (some ⟨c1, 0, none⟩)] 30)).alloc (.cells (bagWF nilB nilB) 54)) = w9 at *
    generalize w7.heap.size + 1 = g at *
    clear ca0 ca1 la
    generalize w7.heap.size = xb at *
    go_loopw [7] (fun vi wr => ∃ i : Nat, i ≤ sc.length ∧ vi = .int .i64 (i : Int) ∧ Hid (∃ D l wv fv ps qs, Wk w wr xa xb g D l l wv fv (ps.map Rw.v) (qs.map Rw.v) ps qs ∧ ps.length ≤ 600 ∧ qs.length ≤ 600)) (fun vi _ => sc.length - (intOf vi).toNat)
    case atStart =>
      obtain ⟨D, h⟩ := H9.out
      exact ⟨0, by omega, rfl, D, _, _, _, [], [], h, by simp, by simp⟩
    case round =>
      obtain ⟨i, hi, rfl, HD⟩ := hrel
      clear H9
      by_cases hlt : i < sc.length
      · have hd : decide ((i : Int) < (sc.length : Int)) = true := by simp; omega
        obtain ⟨s, hs⟩ : ∃ s, sc[i]? = some s := ⟨_, List.getElem?_eq_getElem hlt⟩
        obtain ⟨sb, off, hso, hcx⟩ := HX.out (fun e => by rw [e] at hlt; simp at hlt)
        obtain ⟨D, l, wv, fv, ps, qs, hO, hp6, hq6⟩ := HD.out
        obtain ⟨kk, hkk⟩ : ∃ kk : Nat, s.place % 2 = (kk : Int) := ⟨(s.place % 2).toNat, by omega⟩
        have hk2 : kk < 2 := by omega
        have hkI : (kk : Int) < 2 := by omega
        have hkJ : (0 : Int) ≤ (kk : Int) := by omega
        have hand : bits .and .i64 s.place 1 = (kk : Int) := by rw [i64_and1w, hkk]
        clear hkk
        have HG : Hid (∀ (W : World) (D' : WcB) (lA lR : Nat → List WaT) (wv fv : Value) (bs cs : List Value) (ps qs : List Rw), Wk w W xa xb g D' lA lR wv fv bs cs ps qs → D'.b = D.b → D'.c = D.c → (W.cell? ⟨xa, kk, none⟩ = some (.pointer (some ⟨D.b kk, 0, none⟩)) ∧ W.cell? ⟨xb, kk, none⟩ = some (.pointer (some ⟨D.c kk, 0, none⟩)) ∧ W.cell? ⟨sb, off + i * 7, none⟩ = some (.int .i64 s.place) ∧ W.cell? ⟨sb, off + i * 7 + 1, none⟩ = some (.int .i64 s.what) ∧ W.cell? ⟨sb, off + i * 7 + 2, none⟩ = some (.int .i64 s.wa.1) ∧ W.cell? ⟨sb, off + i * 7 + 3, none⟩ = some (.int .i8 s.wa.2.1) ∧ W.cell? ⟨sb, off + i * 7 + 4, none⟩ = some (.string s.wa.2.2) ∧ W.cell? ⟨sb, off + i * 7 + 5, none⟩ = some (.int .i8 s.ch.1) ∧ W.cell? ⟨sb, off + i * 7 + 6, none⟩ = some (.string s.ch.2))) := by
          intro W D' lA lR wv fv bs cs ps qs h e1 e2
          obtain ⟨ca, cb⟩ := h.ca hk2
          rw [e1] at ca
          rw [e2] at cb
          exact ⟨ca, cb, cellB h.bel (hcx i s hs 0 _ rfl), cellB h.bel (hcx i s hs 1 _ rfl), cellB h.bel (hcx i s hs 2 _ rfl), cellB h.bel (hcx i s hs 3 _ rfl), cellB h.bel (hcx i s hs 4 _ rfl), cellB h.bel (hcx i s hs 5 _ rfl), cellB h.bel (hcx i s hs 6 _ rfl)⟩
        obtain ⟨ca, cb, k0, k1, k2, k3, k4, k5, k6⟩ := HG.out wr _ _ _ _ _ _ _ _ _ hO rfl rfl
        have hz0 : sb < wr.heap.size := World.block_lt_of_cell? wr _ k0
        have hza : xa < wr.heap.size := World.block_lt_of_cell? wr _ ca
        have hzb : xb < wr.heap.size := World.block_lt_of_cell? wr _ cb
        have HV : Hid (Wk w wr xa xb g D l l wv fv (ps.map Rw.v) (qs.map Rw.v) ps qs ∧ ps.length ≤ 600 ∧ qs.length ≤ 600) := ⟨hO, hp6, hq6⟩
        have hfew := HF.out s (List.mem_of_getElem? hs)
        subst hso
        clear hcx hs hO hp6 hq6
        by_cases hneg : s.what < 0
        · have dn : decide (s.what < 0) = true := by simp; omega
          clear HG ca cb hfew HV hneg
          go_wp2
          go_roundw
          case rel => exact ⟨i + 1, by omega, by simp, HD.out⟩
          case measure => simp [intOf]; omega
        · have dn : decide (s.what < 0) = false := by simp; omega
          by_cases hgt : 4 < s.what
          · have dg : decide (4 < s.what) = true := by simp; omega
            clear HG ca cb hfew HV hneg hgt
            go_wp2
            go_roundw
            case rel => exact ⟨i + 1, by omega, by simp, HD.out⟩
            case measure => simp [intOf]; omega
          · have dg : decide (4 < s.what) = false := by simp; omega
            have HI : Hid (kk < 2 ∧ s.few ∧ (0 ≤ s.what ∧ s.what ≤ 4)) := ⟨hk2, hfew, by omega, by omega⟩
            clear HD hfew hneg hgt
            go_upto_region 14 with fail
            clear ca cb k0 k1 k2 k3 k4 k5 k6 hz0 hza hzb
            obtain ⟨hz0, hza, hzb⟩ : Hid (sb < wr.heap.size) ∧ Hid (xa < wr.heap.size) ∧ Hid (xb < wr.heap.size) := by
              obtain ⟨ca, cb, k0, _⟩ := HG.out wr _ _ _ _ _ _ _ _ _ HV.out.1 rfl rfl
              exact ⟨World.block_lt_of_cell? wr _ k0, World.block_lt_of_cell? wr _ ca, World.block_lt_of_cell? wr _ cb⟩
            clear hz0 hza hzb
            refine wp_region_held_drew (S := (fun W => W.cell? ⟨xa, kk, none⟩ = some (.pointer (some ⟨D.b kk, 0, none⟩)) ∧ W.cell? ⟨xb, kk, none⟩ = some (.pointer (some ⟨D.c kk, 0, none⟩)) ∧ W.cell? ⟨sb, off + i * 7, none⟩ = some (.int .i64 s.place) ∧ W.cell? ⟨sb, off + i * 7 + 1, none⟩ = some (.int .i64 s.what) ∧ W.cell? ⟨sb, off + i * 7 + 2, none⟩ = some (.int .i64 s.wa.1) ∧ W.cell? ⟨sb, off + i * 7 + 3, none⟩ = some (.int .i8 s.wa.2.1) ∧ W.cell? ⟨sb, off + i * 7 + 4, none⟩ = some (.string s.wa.2.2) ∧ W.cell? ⟨sb, off + i * 7 + 5, none⟩ = some (.int .i8 s.ch.1) ∧ W.cell? ⟨sb, off + i * 7 + 6, none⟩ = some (.string s.ch.2))) (by kernel_rfl) ?_ (fun hHeld => ?_)
            · exact HG.out _ _ _ _ _ _ _ _ _ _ (HV.out.1.below (below_drewN (Below.refl _ wr) 1)) rfl rfl
            refine wpAnyH_take (i := 0) (oi := { dst := some 66, op := Op.move (Operand.tmp 8), type := 3, pos := "law.go:105", after := #[], guard := none }) (v := ?_) rfl (by kernel_rfl) (by kernel_rfl) (by kernel_rfl) (fun _ _ _ h => h) (Or.inl ⟨by rfl, ?_⟩) (by assumption) ?_
            rotate_left
            · (intro w hSw; (try dsimp only at hSw); go_simp) <;> with_reducible rfl
            try simp only [Act.put, List.setIfInBounds_toArray, List.set_cons_zero, List.set_cons_succ]
            refine wpAnyH_take (i := 1) (oi := { dst := some 67, op := Op.indexAddr 27 (Operand.tmp 4) (Operand.tmp 66), type := 0, pos := "law.go:105", after := #[{ on := 0, ground := Ground.data }], guard := none }) (v := ?_) rfl (by kernel_rfl) (by kernel_rfl) (by kernel_rfl) (fun _ _ _ h => h) (Or.inl ⟨by rfl, ?_⟩) (by assumption) ?_
            rotate_left
            · (intro w hSw; (try dsimp only at hSw); go_simp) <;> with_reducible rfl
            try simp only [Act.put, List.setIfInBounds_toArray, List.set_cons_zero, List.set_cons_succ]
            refine wpAnyH_take (i := 2) (oi := { dst := some 68, op := Op.load 25 (Operand.tmp 67), type := 25, pos := "law.go:105", after := #[{ on := 1, ground := Ground.data }], guard := none }) (v := ?_) rfl (by kernel_rfl) (by kernel_rfl) (by kernel_rfl) (fun _ _ _ h => h) (Or.inl ⟨by rfl, ?_⟩) (by assumption) ?_
            rotate_left
            · (intro w hSw; (try dsimp only at hSw); go_simp) <;> with_reducible rfl
            try simp only [Act.put, List.setIfInBounds_toArray, List.set_cons_zero, List.set_cons_succ]
            refine wpAnyH_take (i := 3) (oi := { dst := some 69, op := Op.move (Operand.tmp 0), type := 22, pos := "law.go:105", after := #[], guard := none }) (v := ?_) rfl (by kernel_rfl) (by kernel_rfl) (by kernel_rfl) (fun _ _ _ h => h) (Or.inl ⟨by rfl, ?_⟩) (by assumption) ?_
            rotate_left
            · (intro w hSw; (try dsimp only at hSw); go_simp) <;> with_reducible rfl
            try simp only [Act.put, List.setIfInBounds_toArray, List.set_cons_zero, List.set_cons_succ]
            refine wpAnyH_take (i := 4) (oi := { dst := some 70, op := Op.move (Operand.tmp 7), type := 3, pos := "law.go:105", after := #[], guard := none }) (v := ?_) rfl (by kernel_rfl) (by kernel_rfl) (by kernel_rfl) (fun _ _ _ h => h) (Or.inl ⟨by rfl, ?_⟩) (by assumption) ?_
            rotate_left
            · (intro w hSw; (try dsimp only at hSw); go_simp) <;> with_reducible rfl
            try simp only [Act.put, List.setIfInBounds_toArray, List.set_cons_zero, List.set_cons_succ]
            refine wpAnyH_take (i := 5) (oi := { dst := some 71, op := Op.indexAddr 22 (Operand.tmp 69) (Operand.tmp 70), type := 0, pos := "law.go:105", after := #[{ on := 3, ground := Ground.data }, { on := 4, ground := Ground.data }], guard := none }) (v := ?_) rfl (by kernel_rfl) (by kernel_rfl) (by kernel_rfl) (fun _ _ _ h => h) (Or.inl ⟨by rfl, ?_⟩) (by assumption) ?_
            rotate_left
            · (intro w hSw; (try dsimp only at hSw); go_simp) <;> with_reducible rfl
            try simp only [Act.put, List.setIfInBounds_toArray, List.set_cons_zero, List.set_cons_succ]
            refine wpAnyH_take (i := 6) (oi := { dst := some 72, op := Op.load 61 (Operand.tmp 71), type := 61, pos := "law.go:105", after := #[{ on := 5, ground := Ground.data }], guard := none }) (v := ?_) rfl (by kernel_rfl) (by kernel_rfl) (by kernel_rfl) (fun _ _ _ h => h) (Or.inl ⟨by rfl, ?_⟩) (by assumption) ?_
            rotate_left
            · (intro w hSw; (try dsimp only at hSw); go_simp) <;> with_reducible rfl
            try simp only [Act.put, List.setIfInBounds_toArray, List.set_cons_zero, List.set_cons_succ]
            refine wpAnyH_ready (rs := [7, 8]) (by kernel_rfl) (by simp) ?_
            refine AllReadyH.cons (o := { dst := some 73, op := Op.call { callee := Callee.value (Operand.func 8), args := #[Operand.tmp 68, Operand.tmp 72], argTypes := #[25, 61] }, type := 66, pos := "law.go:105", after := #[{ on := 2, ground := Ground.data }, { on := 6, ground := Ground.data }], guard := none }) rfl (fun K hK => ?_) (AllReadyH.cons (o := { dst := some 9, op := Op.alloc 66, type := 0, pos := "law.go:105", after := #[], guard := none }) rfl (fun K hK => ?_) AllReadyH.nil)
            · go_simp
              refine Calls.mono (does_wk s (HV.out.1.below (below_drewN (Below.refl _ wr) 1)) HI.out.1 HI.out.2.1 HI.out.2.2) ?_
              rintro _ w1 ⟨uf, uw, v', rfl, h1, hF1, hW1, ht1, hz1⟩
              obtain ⟨fa, fc, rfl⟩ := rowS hF1
              obtain ⟨wa, wc, rfl⟩ := rowS hW1
              have H1 : Hid ((Wk w w1 xa xb g (D.setV kk v') (updW l kk (stL s (l kk))) l wv fv (ps.map Rw.v) (qs.map Rw.v) (ps ++ [⟨.slice wa (stW s (l kk)).length wc, (stW s (l kk)).length⟩]) (qs ++ [⟨.slice fa (stF s (l kk)).length fc, (stF s (l kk)).length⟩])) ∧ (w1.ownsRow w.heap.size 77 5 (.slice fa (stF s (l kk)).length fc) (stF s (l kk)).length (fiFlat s.ch (stF s (l kk))) ∧ w1.ownsRow w.heap.size 57 3 (.slice wa (stW s (l kk)).length wc) (stW s (l kk)).length (waFlat (stW s (l kk))))) := ⟨h1, hF1, hW1⟩
              clear h1 hF1 hW1 ht1 hz1
              refine hK.out _ _ (HG.out _ _ _ _ _ _ _ _ _ _ H1.out.1 rfl rfl) (fun hHeld => ?_)
              clear hK K
              refine wpAnyH_ready (rs := [8]) (by kernel_rfl) (by simp) ?_
              refine AllReadyH.cons (o := { dst := some 9, op := Op.alloc 66, type := 0, pos := "law.go:105", after := #[], guard := none }) rfl (fun K hK => ?_) AllReadyH.nil
              go_simp
              have B2 : Below w1.heap.size w1 (w1.alloc zeroTold) := (Below.refl _ _).alloc (Nat.le_refl _) _
              have HB : Hid ((Wk w (w1.alloc zeroTold) xa xb g (D.setV kk v') (updW l kk (stL s (l kk))) l wv fv (ps.map Rw.v) (qs.map Rw.v) (ps ++ [⟨.slice wa (stW s (l kk)).length wc, (stW s (l kk)).length⟩]) (qs ++ [⟨.slice fa (stF s (l kk)).length fc, (stF s (l kk)).length⟩])) ∧ (w1.alloc zeroTold).ownsRow w.heap.size 77 5 (.slice fa (stF s (l kk)).length fc) (stF s (l kk)).length (fiFlat s.ch (stF s (l kk))) ∧ (w1.alloc zeroTold).ownsRow w.heap.size 57 3 (.slice wa (stW s (l kk)).length wc) (stW s (l kk)).length (waFlat (stW s (l kk))) ∧ (w1.alloc zeroTold).heap[w1.heap.size]? = some zeroTold ∧ w.heap.size ≤ w1.heap.size) := ⟨H1.out.1.below B2, rowK H1.out.2.1 (Below.kept B2) (fun k hk => by have := (H1.out.2.1.lt k hk).2; omega), rowK H1.out.2.2 (Below.kept B2) (fun k hk => by have := (H1.out.2.2.lt k hk).2; omega), heap_alloc_new _ _, H1.out.1.bel.size⟩
              clear B2
              refine hK.out _ _ (HG.out _ _ _ _ _ _ _ _ _ _ HB.out.1 rfl rfl) (fun hHeld => ?_)
              generalize w1.heap.size = bx at *
              generalize w1.alloc zeroTold = w2 at *
              have o0 := cell_of_row _ bx 0 _ _ _ HB.out.2.2.2.1
              have o1 := cell_of_row _ bx 1 _ _ _ HB.out.2.2.2.1
              have o2 := cell_of_row _ bx 2 _ _ _ HB.out.2.2.2.1
              have p0 := frozen_of_row _ bx 0 _ _ HB.out.2.2.2.1
              have p1 := frozen_of_row _ bx 1 _ _ HB.out.2.2.2.1
              have p2 := frozen_of_row _ bx 2 _ _ HB.out.2.2.2.1
              have z2 := lt_of_block HB.out.2.2.2.1
              clear hK K
              refine wpAnyH_ready (rs := [9]) (by kernel_rfl) (by simp) ?_
              refine AllReadyH.cons (o := { dst := none, op := Op.store 66 (Operand.tmp 9) (Operand.tmp 73), type := 0, pos := "law.go:105", after := #[{ on := 8, ground := Ground.data }, { on := 7, ground := Ground.data }, { on := 7, ground := Ground.chain }, { on := 0, ground := Ground.phase }, { on := 1, ground := Ground.phase }, { on := 2, ground := Ground.phase }, { on := 3, ground := Ground.phase }, { on := 4, ground := Ground.phase }, { on := 5, ground := Ground.phase }, { on := 6, ground := Ground.phase }, { on := 7, ground := Ground.phase }, { on := 8, ground := Ground.phase }], guard := none }) rfl (fun K hK => ?_) AllReadyH.nil
              go_simp
              have HP : Hid ((Wk w (((w2.setCell ⟨bx, 0, none⟩ (.int .i64 (stE s (l kk)))).setCell ⟨bx, 1, none⟩ (.slice fa (stF s (l kk)).length fc)).setCell ⟨bx, 2, none⟩ (.slice wa (stW s (l kk)).length wc)) xa xb g (D.setV kk v') (updW l kk (stL s (l kk))) l wv fv (ps.map Rw.v) (qs.map Rw.v) (ps ++ [⟨.slice wa (stW s (l kk)).length wc, (stW s (l kk)).length⟩]) (qs ++ [⟨.slice fa (stF s (l kk)).length fc, (stF s (l kk)).length⟩])) ∧ (((w2.setCell ⟨bx, 0, none⟩ (.int .i64 (stE s (l kk)))).setCell ⟨bx, 1, none⟩ (.slice fa (stF s (l kk)).length fc)).setCell ⟨bx, 2, none⟩ (.slice wa (stW s (l kk)).length wc)).ownsRow w.heap.size 77 5 (.slice fa (stF s (l kk)).length fc) (stF s (l kk)).length (fiFlat s.ch (stF s (l kk))) ∧ (((w2.setCell ⟨bx, 0, none⟩ (.int .i64 (stE s (l kk)))).setCell ⟨bx, 1, none⟩ (.slice fa (stF s (l kk)).length fc)).setCell ⟨bx, 2, none⟩ (.slice wa (stW s (l kk)).length wc)).ownsRow w.heap.size 57 3 (.slice wa (stW s (l kk)).length wc) (stW s (l kk)).length (waFlat (stW s (l kk))) ∧ (((w2.setCell ⟨bx, 0, none⟩ (.int .i64 (stE s (l kk)))).setCell ⟨bx, 1, none⟩ (.slice fa (stF s (l kk)).length fc)).setCell ⟨bx, 2, none⟩ (.slice wa (stW s (l kk)).length wc)).heap[bx]? = some (.cells #[.int .i64 (stE s (l kk)), .slice fa (stF s (l kk)).length fc, .slice wa (stW s (l kk)).length wc] 66 (0, 0))) := by
                have hkt := told_kept w2 bx (.int .i64 (stE s (l kk))) (.slice fa (stF s (l kk)).length fc) (.slice wa (stW s (l kk)).length wc)
                refine ⟨HB.out.1.box HB.out.2.2.2.1 HB.out.2.2.2.2 hkt, row_box HB.out.2.1 (by decide) HB.out.2.2.2.1 hkt, row_box HB.out.2.2.1 (by decide) HB.out.2.2.2.1 hkt, ?_⟩
                have hrow := heap_set1 (i := 2) (.slice wa (stW s (l kk)).length wc) (heap_set1 (i := 1) (.slice fa (stF s (l kk)).length fc) (heap_set1 (i := 0) (.int .i64 (stE s (l kk))) HB.out.2.2.2.1))
                have e : (((#[Value.int .i64 0, Value.slice none 0 0, Value.slice none 0 0] : Array Value).setIfInBounds 0 (Value.int .i64 (stE s (l kk)))).setIfInBounds 1 (Value.slice fa (stF s (l kk)).length fc)).setIfInBounds 2 (Value.slice wa (stW s (l kk)).length wc) = (#[Value.int .i64 (stE s (l kk)), Value.slice fa (stF s (l kk)).length fc, Value.slice wa (stW s (l kk)).length wc] : Array Value) := by simp
                rw [e] at hrow
                exact hrow
              refine hK.out _ _ (HG.out _ _ _ _ _ _ _ _ _ _ HP.out.1 rfl rfl) (fun hHeld => ?_)
              clear o0 o1 o2 p0 p1 p2 z2 HB H1
              generalize (((w2.setCell ⟨bx, 0, none⟩ (.int .i64 (stE s (l kk)))).setCell ⟨bx, 1, none⟩ (.slice fa (stF s (l kk)).length fc)).setCell ⟨bx, 2, none⟩ (.slice wa (stW s (l kk)).length wc)) = w3 at *
              clear hK K
              refine wpAnyH_done (by kernel_rfl) ?_ _
              clear hHeld
              have HL : Hid (ps.length ≤ 600 ∧ qs.length ≤ 600 ∧ Wats (l kk)) := ⟨HV.out.2.1, HV.out.2.2, HV.out.1.wA kk HI.out.1⟩
              clear HV
              go_upto_region 15 with fail
              refine wp_region_held_drew (S := (fun W => W.cell? ⟨xa, kk, none⟩ = some (.pointer (some ⟨D.b kk, 0, none⟩)) ∧ W.cell? ⟨xb, kk, none⟩ = some (.pointer (some ⟨D.c kk, 0, none⟩)) ∧ W.cell? ⟨sb, off + i * 7, none⟩ = some (.int .i64 s.place) ∧ W.cell? ⟨sb, off + i * 7 + 1, none⟩ = some (.int .i64 s.what) ∧ W.cell? ⟨sb, off + i * 7 + 2, none⟩ = some (.int .i64 s.wa.1) ∧ W.cell? ⟨sb, off + i * 7 + 3, none⟩ = some (.int .i8 s.wa.2.1) ∧ W.cell? ⟨sb, off + i * 7 + 4, none⟩ = some (.string s.wa.2.2) ∧ W.cell? ⟨sb, off + i * 7 + 5, none⟩ = some (.int .i8 s.ch.1) ∧ W.cell? ⟨sb, off + i * 7 + 6, none⟩ = some (.string s.ch.2))) (by kernel_rfl) ?_ (fun hHeld => ?_)
              · exact HG.out _ _ _ _ _ _ _ _ _ _ (HP.out.1.below (below_drewN (Below.refl _ w3) 1)) rfl rfl
              refine wpAnyH_take (i := 0) (oi := { dst := some 74, op := Op.move (Operand.tmp 8), type := 3, pos := "law.go:106", after := #[], guard := none }) (v := ?_) rfl (by kernel_rfl) (by kernel_rfl) (by kernel_rfl) (fun _ _ _ h => h) (Or.inl ⟨by rfl, ?_⟩) (by assumption) ?_
              rotate_left
              · (intro w hSw; (try dsimp only at hSw); go_simp) <;> with_reducible rfl
              try simp only [Act.put, List.setIfInBounds_toArray, List.set_cons_zero, List.set_cons_succ]
              refine wpAnyH_take (i := 1) (oi := { dst := some 75, op := Op.indexAddr 30 (Operand.tmp 5) (Operand.tmp 74), type := 0, pos := "law.go:106", after := #[{ on := 0, ground := Ground.data }], guard := none }) (v := ?_) rfl (by kernel_rfl) (by kernel_rfl) (by kernel_rfl) (fun _ _ _ h => h) (Or.inl ⟨by rfl, ?_⟩) (by assumption) ?_
              rotate_left
              · (intro w hSw; (try dsimp only at hSw); go_simp) <;> with_reducible rfl
              try simp only [Act.put, List.setIfInBounds_toArray, List.set_cons_zero, List.set_cons_succ]
              refine wpAnyH_take (i := 2) (oi := { dst := some 76, op := Op.load 28 (Operand.tmp 75), type := 28, pos := "law.go:106", after := #[{ on := 1, ground := Ground.data }], guard := none }) (v := ?_) rfl (by kernel_rfl) (by kernel_rfl) (by kernel_rfl) (fun _ _ _ h => h) (Or.inl ⟨by rfl, ?_⟩) (by assumption) ?_
              rotate_left
              · (intro w hSw; (try dsimp only at hSw); go_simp) <;> with_reducible rfl
              try simp only [Act.put, List.setIfInBounds_toArray, List.set_cons_zero, List.set_cons_succ]
              refine wpAnyH_take (i := 3) (oi := { dst := some 77, op := Op.move (Operand.tmp 0), type := 22, pos := "law.go:106", after := #[], guard := none }) (v := ?_) rfl (by kernel_rfl) (by kernel_rfl) (by kernel_rfl) (fun _ _ _ h => h) (Or.inl ⟨by rfl, ?_⟩) (by assumption) ?_
              rotate_left
              · (intro w hSw; (try dsimp only at hSw); go_simp) <;> with_reducible rfl
              try simp only [Act.put, List.setIfInBounds_toArray, List.set_cons_zero, List.set_cons_succ]
              refine wpAnyH_take (i := 4) (oi := { dst := some 78, op := Op.move (Operand.tmp 7), type := 3, pos := "law.go:106", after := #[], guard := none }) (v := ?_) rfl (by kernel_rfl) (by kernel_rfl) (by kernel_rfl) (fun _ _ _ h => h) (Or.inl ⟨by rfl, ?_⟩) (by assumption) ?_
              rotate_left
              · (intro w hSw; (try dsimp only at hSw); go_simp) <;> with_reducible rfl
              try simp only [Act.put, List.setIfInBounds_toArray, List.set_cons_zero, List.set_cons_succ]
              refine wpAnyH_take (i := 5) (oi := { dst := some 79, op := Op.indexAddr 22 (Operand.tmp 77) (Operand.tmp 78), type := 0, pos := "law.go:106", after := #[{ on := 3, ground := Ground.data }, { on := 4, ground := Ground.data }], guard := none }) (v := ?_) rfl (by kernel_rfl) (by kernel_rfl) (by kernel_rfl) (fun _ _ _ h => h) (Or.inl ⟨by rfl, ?_⟩) (by assumption) ?_
              rotate_left
              · (intro w hSw; (try dsimp only at hSw); go_simp) <;> with_reducible rfl
              try simp only [Act.put, List.setIfInBounds_toArray, List.set_cons_zero, List.set_cons_succ]
              refine wpAnyH_take (i := 6) (oi := { dst := some 80, op := Op.load 61 (Operand.tmp 79), type := 61, pos := "law.go:106", after := #[{ on := 5, ground := Ground.data }], guard := none }) (v := ?_) rfl (by kernel_rfl) (by kernel_rfl) (by kernel_rfl) (fun _ _ _ h => h) (Or.inl ⟨by rfl, ?_⟩) (by assumption) ?_
              rotate_left
              · (intro w hSw; (try dsimp only at hSw); go_simp) <;> with_reducible rfl
              try simp only [Act.put, List.setIfInBounds_toArray, List.set_cons_zero, List.set_cons_succ]
              refine wpAnyH_ready (rs := [7, 8]) (by kernel_rfl) (by simp) ?_
              refine AllReadyH.cons (o := { dst := some 81, op := Op.call { callee := Callee.value (Operand.func 9), args := #[Operand.tmp 76, Operand.tmp 80], argTypes := #[28, 61] }, type := 66, pos := "law.go:106", after := #[{ on := 2, ground := Ground.data }, { on := 6, ground := Ground.data }], guard := none }) rfl (fun K hK => ?_) (AllReadyH.cons (o := { dst := some 10, op := Op.alloc 66, type := 0, pos := "law.go:106", after := #[], guard := none }) rfl (fun K hK => ?_) AllReadyH.nil)
              · go_simp
                refine Calls.mono (wants_wk (D := D.setV kk v') s (HP.out.1.below (below_drewN (Below.refl _ w3) 1)) HI.out.1 HI.out.2.1 HI.out.2.2) ?_
                rintro _ x1 ⟨yf, yw, r', rfl, h1, hF1, hW1, ht1, hfk, hwk, hz1⟩
                obtain ⟨ya, yc, rfl⟩ := rowS hF1
                obtain ⟨za, zc, rfl⟩ := rowS hW1
                have H2 : Hid ((Wk w x1 xa xb g ((D.setV kk v').setR kk r') (updW l kk (stL s (l kk))) (updW l kk (stL s (l kk))) wv fv (ps.map Rw.v) (qs.map Rw.v) (ps ++ [⟨.slice wa (stW s (l kk)).length wc, (stW s (l kk)).length⟩]) (qs ++ [⟨.slice fa (stF s (l kk)).length fc, (stF s (l kk)).length⟩])) ∧ (x1.ownsRow w.heap.size 77 5 (.slice fa (stF s (l kk)).length fc) (stF s (l kk)).length (fiFlat s.ch (stF s (l kk))) ∧ x1.ownsRow w.heap.size 57 3 (.slice wa (stW s (l kk)).length wc) (stW s (l kk)).length (waFlat (stW s (l kk)))) ∧ (x1.ownsRow 0 77 5 (.slice ya (stF s (l kk)).length yc) (stF s (l kk)).length (fiFlat s.ch (stF s (l kk))) ∧ x1.ownsRow 0 57 3 (.slice za (stW s (l kk)).length zc) (stW s (l kk)).length (waFlat (stW s (l kk)))) ∧ x1.heap[bx]? = some (.cells #[.int .i64 (stE s (l kk)), .slice fa (stF s (l kk)).length fc, .slice wa (stW s (l kk)).length wc] 66 (0, 0))) := ⟨h1, ⟨hfk _ _ _ _ (rowK (HP.out.2.1) (Below.kept (below_drewN (Below.refl w3.heap.size w3) 1)) (fun k hk => by have := (HP.out.2.1.lt k hk).2; omega)), hwk _ _ _ _ (fun k e => ⟨ps.length, by simp, by simpa using e⟩) (rowK (HP.out.2.2.1) (Below.kept (below_drewN (Below.refl w3.heap.size w3) 1)) (fun k hk => by have := (HP.out.2.2.1.lt k hk).2; omega))⟩, ⟨hF1, hW1⟩, ht1 _ _ (box_later HP.out.2.2.2 (below_drewN (Below.refl _ w3) 1))⟩
                clear h1 hF1 hW1 ht1 hz1 hfk hwk
                refine hK.out _ _ (HG.out _ _ _ _ _ _ _ _ _ _ H2.out.1 rfl rfl) (fun hHeld => ?_)
                clear hK K
                refine wpAnyH_ready (rs := [8]) (by kernel_rfl) (by simp) ?_
                refine AllReadyH.cons (o := { dst := some 10, op := Op.alloc 66, type := 0, pos := "law.go:106", after := #[], guard := none }) rfl (fun K hK => ?_) AllReadyH.nil
                go_simp
                have B2 : Below x1.heap.size x1 (x1.alloc zeroTold) := (Below.refl _ _).alloc (Nat.le_refl _) _
                have HB : Hid (((Wk w (x1.alloc zeroTold) xa xb g ((D.setV kk v').setR kk r') (updW l kk (stL s (l kk))) (updW l kk (stL s (l kk))) wv fv (ps.map Rw.v) (qs.map Rw.v) (ps ++ [⟨.slice wa (stW s (l kk)).length wc, (stW s (l kk)).length⟩]) (qs ++ [⟨.slice fa (stF s (l kk)).length fc, (stF s (l kk)).length⟩])) ∧ ((x1.alloc zeroTold).ownsRow w.heap.size 77 5 (.slice fa (stF s (l kk)).length fc) (stF s (l kk)).length (fiFlat s.ch (stF s (l kk))) ∧ (x1.alloc zeroTold).ownsRow w.heap.size 57 3 (.slice wa (stW s (l kk)).length wc) (stW s (l kk)).length (waFlat (stW s (l kk)))) ∧ ((x1.alloc zeroTold).ownsRow 0 77 5 (.slice ya (stF s (l kk)).length yc) (stF s (l kk)).length (fiFlat s.ch (stF s (l kk))) ∧ (x1.alloc zeroTold).ownsRow 0 57 3 (.slice za (stW s (l kk)).length zc) (stW s (l kk)).length (waFlat (stW s (l kk)))) ∧ (x1.alloc zeroTold).heap[bx]? = some (.cells #[.int .i64 (stE s (l kk)), .slice fa (stF s (l kk)).length fc, .slice wa (stW s (l kk)).length wc] 66 (0, 0))) ∧ (x1.alloc zeroTold).heap[x1.heap.size]? = some zeroTold ∧ w.heap.size ≤ x1.heap.size ∧ ¬ bx = x1.heap.size) := ⟨⟨H2.out.1.below B2, ⟨rowK (H2.out.2.1.1) (Below.kept B2) (fun k hk => by have := (H2.out.2.1.1.lt k hk).2; omega), rowK (H2.out.2.1.2) (Below.kept B2) (fun k hk => by have := (H2.out.2.1.2.lt k hk).2; omega)⟩, ⟨rowK (H2.out.2.2.1.1) (Below.kept B2) (fun k hk => by have := (H2.out.2.2.1.1.lt k hk).2; omega), rowK (H2.out.2.2.1.2) (Below.kept B2) (fun k hk => by have := (H2.out.2.2.1.2.lt k hk).2; omega)⟩, box_later H2.out.2.2.2 B2⟩, heap_alloc_new _ _, H2.out.1.bel.size, fun e => by have := lt_of_block H2.out.2.2.2; omega⟩
                clear B2
                refine hK.out _ _ (HG.out _ _ _ _ _ _ _ _ _ _ HB.out.1.1 rfl rfl) (fun hHeld => ?_)
                generalize x1.heap.size = by_ at *
                generalize x1.alloc zeroTold = x2 at *
                have o0 := cell_of_row _ by_ 0 _ _ _ HB.out.2.1
                have o1 := cell_of_row _ by_ 1 _ _ _ HB.out.2.1
                have o2 := cell_of_row _ by_ 2 _ _ _ HB.out.2.1
                have p0 := frozen_of_row _ by_ 0 _ _ HB.out.2.1
                have p1 := frozen_of_row _ by_ 1 _ _ HB.out.2.1
                have p2 := frozen_of_row _ by_ 2 _ _ HB.out.2.1
                have z2 := lt_of_block HB.out.2.1
                clear hK K
                refine wpAnyH_ready (rs := [9]) (by kernel_rfl) (by simp) ?_
                refine AllReadyH.cons (o := { dst := none, op := Op.store 66 (Operand.tmp 10) (Operand.tmp 81), type := 0, pos := "law.go:106", after := #[{ on := 8, ground := Ground.data }, { on := 7, ground := Ground.data }, { on := 7, ground := Ground.chain }, { on := 0, ground := Ground.phase }, { on := 1, ground := Ground.phase }, { on := 2, ground := Ground.phase }, { on := 3, ground := Ground.phase }, { on := 4, ground := Ground.phase }, { on := 5, ground := Ground.phase }, { on := 6, ground := Ground.phase }, { on := 7, ground := Ground.phase }, { on := 8, ground := Ground.phase }], guard := none }) rfl (fun K hK => ?_) AllReadyH.nil
                go_simp
                have HQ : Hid (((Wk w (((x2.setCell ⟨by_, 0, none⟩ (.int .i64 (stE s (l kk)))).setCell ⟨by_, 1, none⟩ (.slice ya (stF s (l kk)).length yc)).setCell ⟨by_, 2, none⟩ (.slice za (stW s (l kk)).length zc)) xa xb g ((D.setV kk v').setR kk r') (updW l kk (stL s (l kk))) (updW l kk (stL s (l kk))) wv fv (ps.map Rw.v) (qs.map Rw.v) (ps ++ [⟨.slice wa (stW s (l kk)).length wc, (stW s (l kk)).length⟩]) (qs ++ [⟨.slice fa (stF s (l kk)).length fc, (stF s (l kk)).length⟩])) ∧ ((((x2.setCell ⟨by_, 0, none⟩ (.int .i64 (stE s (l kk)))).setCell ⟨by_, 1, none⟩ (.slice ya (stF s (l kk)).length yc)).setCell ⟨by_, 2, none⟩ (.slice za (stW s (l kk)).length zc)).ownsRow w.heap.size 77 5 (.slice fa (stF s (l kk)).length fc) (stF s (l kk)).length (fiFlat s.ch (stF s (l kk))) ∧ (((x2.setCell ⟨by_, 0, none⟩ (.int .i64 (stE s (l kk)))).setCell ⟨by_, 1, none⟩ (.slice ya (stF s (l kk)).length yc)).setCell ⟨by_, 2, none⟩ (.slice za (stW s (l kk)).length zc)).ownsRow w.heap.size 57 3 (.slice wa (stW s (l kk)).length wc) (stW s (l kk)).length (waFlat (stW s (l kk)))) ∧ ((((x2.setCell ⟨by_, 0, none⟩ (.int .i64 (stE s (l kk)))).setCell ⟨by_, 1, none⟩ (.slice ya (stF s (l kk)).length yc)).setCell ⟨by_, 2, none⟩ (.slice za (stW s (l kk)).length zc)).ownsRow 0 77 5 (.slice ya (stF s (l kk)).length yc) (stF s (l kk)).length (fiFlat s.ch (stF s (l kk))) ∧ (((x2.setCell ⟨by_, 0, none⟩ (.int .i64 (stE s (l kk)))).setCell ⟨by_, 1, none⟩ (.slice ya (stF s (l kk)).length yc)).setCell ⟨by_, 2, none⟩ (.slice za (stW s (l kk)).length zc)).ownsRow 0 57 3 (.slice za (stW s (l kk)).length zc) (stW s (l kk)).length (waFlat (stW s (l kk)))) ∧ (((x2.setCell ⟨by_, 0, none⟩ (.int .i64 (stE s (l kk)))).setCell ⟨by_, 1, none⟩ (.slice ya (stF s (l kk)).length yc)).setCell ⟨by_, 2, none⟩ (.slice za (stW s (l kk)).length zc)).heap[bx]? = some (.cells #[.int .i64 (stE s (l kk)), .slice fa (stF s (l kk)).length fc, .slice wa (stW s (l kk)).length wc] 66 (0, 0))) ∧ (((x2.setCell ⟨by_, 0, none⟩ (.int .i64 (stE s (l kk)))).setCell ⟨by_, 1, none⟩ (.slice ya (stF s (l kk)).length yc)).setCell ⟨by_, 2, none⟩ (.slice za (stW s (l kk)).length zc)).heap[by_]? = some (.cells #[.int .i64 (stE s (l kk)), .slice ya (stF s (l kk)).length yc, .slice za (stW s (l kk)).length zc] 66 (0, 0))) := by
                  have hkt := told_kept x2 by_ (.int .i64 (stE s (l kk))) (.slice ya (stF s (l kk)).length yc) (.slice za (stW s (l kk)).length zc)
                  have hb := HB.out.2.1
                  refine ⟨⟨HB.out.1.1.box hb HB.out.2.2.1 hkt, ⟨row_box HB.out.1.2.1.1 (by decide) hb hkt, row_box HB.out.1.2.1.2 (by decide) hb hkt⟩, ⟨row_box HB.out.1.2.2.1.1 (by decide) hb hkt, row_box HB.out.1.2.2.1.2 (by decide) hb hkt⟩, hkt.heap HB.out.1.2.2.2 HB.out.2.2.2⟩, ?_⟩
                  have hrow := heap_set1 (i := 2) (.slice za (stW s (l kk)).length zc) (heap_set1 (i := 1) (.slice ya (stF s (l kk)).length yc) (heap_set1 (i := 0) (.int .i64 (stE s (l kk))) hb))
                  have e : (((#[Value.int .i64 0, Value.slice none 0 0, Value.slice none 0 0] : Array Value).setIfInBounds 0 (Value.int .i64 (stE s (l kk)))).setIfInBounds 1 (Value.slice ya (stF s (l kk)).length yc)).setIfInBounds 2 (Value.slice za (stW s (l kk)).length zc) = (#[Value.int .i64 (stE s (l kk)), Value.slice ya (stF s (l kk)).length yc, Value.slice za (stW s (l kk)).length zc] : Array Value) := by simp
                  rw [e] at hrow
                  exact hrow
                refine hK.out _ _ (HG.out _ _ _ _ _ _ _ _ _ _ HQ.out.1.1 rfl rfl) (fun hHeld => ?_)
                clear o0 o1 o2 p0 p1 p2 z2 HB H2
                generalize (((x2.setCell ⟨by_, 0, none⟩ (.int .i64 (stE s (l kk)))).setCell ⟨by_, 1, none⟩ (.slice ya (stF s (l kk)).length yc)).setCell ⟨by_, 2, none⟩ (.slice za (stW s (l kk)).length zc)) = x3 at *
                clear hK K
                refine wpAnyH_done (by kernel_rfl) ?_ _
                clear hHeld HP HG
                have q0 := cell_of_row x3 bx 0 _ _ _ HQ.out.1.2.2.2
                have q1 := cell_of_row x3 bx 1 _ _ _ HQ.out.1.2.2.2
                have q2 := cell_of_row x3 bx 2 _ _ _ HQ.out.1.2.2.2
                have r0 := cell_of_row x3 by_ 0 _ _ _ HQ.out.2
                have r1 := cell_of_row x3 by_ 1 _ _ _ HQ.out.2
                have r2 := cell_of_row x3 by_ 2 _ _ _ HQ.out.2
                have zx := lt_of_block HQ.out.1.2.2.2
                have zy := lt_of_block HQ.out.2
                go_wp2_with fail
                go_at_call 10
                refine Calls.mono (same_any HQ.out.1.2.1.1 HQ.out.1.2.2.1.1 (SW_owns HQ.out.1.2.1.2) (SW_owns HQ.out.1.2.2.1.2) (by have := stF_le s HL.out.2.2; omega) (by have := stW_le s HL.out.2.2; omega)) ?_
                rintro _ x4 ⟨rfl, b4⟩
                have HT : Hid ((Wk w x4 xa xb g ((D.setV kk v').setR kk r') (updW l kk (stL s (l kk))) (updW l kk (stL s (l kk))) wv fv (ps.map Rw.v) (qs.map Rw.v) (ps ++ [⟨.slice wa (stW s (l kk)).length wc, (stW s (l kk)).length⟩]) (qs ++ [⟨.slice fa (stF s (l kk)).length fc, (stF s (l kk)).length⟩])) ∧ x4.heap[bx]? = some (.cells #[.int .i64 (stE s (l kk)), .slice fa (stF s (l kk)).length fc, .slice wa (stW s (l kk)).length wc] 66 (0, 0))) := ⟨HQ.out.1.1.below b4, box_later HQ.out.1.2.2.2 b4⟩
                clear q0 q1 q2 r0 r1 r2 zx zy HQ b4
                have q1 := cell_of_row x4 bx 1 _ _ _ HT.out.2
                have zx := lt_of_block HT.out.2
                go_wp2_with fail
                go_at_call 11
                refine Calls.mono (addF_wk HT.out.1 HL.out.2.1) ?_
                rintro _ x5 ⟨rfl, fv', qs', h5, hq5, ht5⟩
                have HU : Hid ((Wk w x5 xa xb g ((D.setV kk v').setR kk r') (updW l kk (stL s (l kk))) (updW l kk (stL s (l kk))) wv fv' (ps.map Rw.v) (qs'.map Rw.v) (ps ++ [⟨.slice wa (stW s (l kk)).length wc, (stW s (l kk)).length⟩]) qs') ∧ qs'.length ≤ 600 ∧ x5.heap[bx]? = some (.cells #[.int .i64 (stE s (l kk)), .slice fa (stF s (l kk)).length fc, .slice wa (stW s (l kk)).length wc] 66 (0, 0))) := ⟨h5, hq5, ht5 _ _ HT.out.2⟩
                clear h5 hq5 ht5 q1 zx HT
                have q2 := cell_of_row x5 bx 2 _ _ _ HU.out.2.2
                have zx := lt_of_block HU.out.2.2
                go_wp2_with fail
                go_at_call 12
                refine Calls.mono (addW_wk0 HU.out.1 HL.out.1) ?_
                rintro _ x6 ⟨rfl, wv', ps', h6, hp6⟩
                have HN : Hid (∃ D l wv fv ps qs, Wk w x6 xa xb g D l l wv fv (ps.map Rw.v) (qs.map Rw.v) ps qs ∧ ps.length ≤ 600 ∧ qs.length ≤ 600) := ⟨_, _, _, _, _, _, h6, hp6, HU.out.2.1⟩
                clear h6 hp6 q2 zx HU
                go_wp2
                go_roundw
                case rel => exact ⟨i + 1, by omega, by simp, HN.out⟩
                case measure => simp [intOf]; omega
              · go_simp
                have B2 : Below w3.heap.size w3 (w3.alloc zeroTold).drew := (show Below w3.heap.size w3 w3.drew from below_drewN (Below.refl _ w3) 1).alloc (Nat.le_refl _) _
                have HB0 : Hid (((Wk w (w3.alloc zeroTold).drew xa xb g (D.setV kk v') (updW l kk (stL s (l kk))) l wv fv (ps.map Rw.v) (qs.map Rw.v) (ps ++ [⟨.slice wa (stW s (l kk)).length wc, (stW s (l kk)).length⟩]) (qs ++ [⟨.slice fa (stF s (l kk)).length fc, (stF s (l kk)).length⟩])) ∧ (w3.alloc zeroTold).drew.ownsRow w.heap.size 77 5 (.slice fa (stF s (l kk)).length fc) (stF s (l kk)).length (fiFlat s.ch (stF s (l kk))) ∧ (w3.alloc zeroTold).drew.ownsRow w.heap.size 57 3 (.slice wa (stW s (l kk)).length wc) (stW s (l kk)).length (waFlat (stW s (l kk))) ∧ (w3.alloc zeroTold).drew.heap[bx]? = some (.cells #[.int .i64 (stE s (l kk)), .slice fa (stF s (l kk)).length fc, .slice wa (stW s (l kk)).length wc] 66 (0, 0))) ∧ (w3.alloc zeroTold).drew.heap[w3.heap.size]? = some zeroTold ∧ w.heap.size ≤ w3.heap.size ∧ ¬ bx = w3.heap.size) := ⟨⟨HP.out.1.below B2, rowK (HP.out.2.1) (Below.kept B2) (fun k hk => by have := (HP.out.2.1.lt k hk).2; omega), rowK (HP.out.2.2.1) (Below.kept B2) (fun k hk => by have := (HP.out.2.2.1.lt k hk).2; omega), box_later HP.out.2.2.2 B2⟩, heap_alloc_new _ _, HP.out.1.bel.size, fun e => by have := lt_of_block HP.out.2.2.2; omega⟩
                clear B2
                refine hK.out _ _ (HG.out _ _ _ _ _ _ _ _ _ _ HB0.out.1.1 rfl rfl) (fun hHeld => ?_)
                generalize (w3.alloc zeroTold).drew = x2 at *
                generalize w3.heap.size = by_ at *
                clear hK K
                refine wpAnyH_ready (rs := [7]) (by kernel_rfl) (by simp) ?_
                refine AllReadyH.cons (o := { dst := some 81, op := Op.call { callee := Callee.value (Operand.func 9), args := #[Operand.tmp 76, Operand.tmp 80], argTypes := #[28, 61] }, type := 66, pos := "law.go:106", after := #[{ on := 2, ground := Ground.data }, { on := 6, ground := Ground.data }], guard := none }) rfl (fun K hK => ?_) AllReadyH.nil
                go_simp
                refine Calls.mono (wants_wk (D := D.setV kk v') s HB0.out.1.1 HI.out.1 HI.out.2.1 HI.out.2.2) ?_
                rintro _ x1 ⟨yf, yw, r', rfl, h1, hF1, hW1, ht1, hfk, hwk, hz1⟩
                obtain ⟨ya, yc, rfl⟩ := rowS hF1
                obtain ⟨za, zc, rfl⟩ := rowS hW1
                have H2 : Hid ((Wk w x1 xa xb g ((D.setV kk v').setR kk r') (updW l kk (stL s (l kk))) (updW l kk (stL s (l kk))) wv fv (ps.map Rw.v) (qs.map Rw.v) (ps ++ [⟨.slice wa (stW s (l kk)).length wc, (stW s (l kk)).length⟩]) (qs ++ [⟨.slice fa (stF s (l kk)).length fc, (stF s (l kk)).length⟩])) ∧ (x1.ownsRow w.heap.size 77 5 (.slice fa (stF s (l kk)).length fc) (stF s (l kk)).length (fiFlat s.ch (stF s (l kk))) ∧ x1.ownsRow w.heap.size 57 3 (.slice wa (stW s (l kk)).length wc) (stW s (l kk)).length (waFlat (stW s (l kk)))) ∧ (x1.ownsRow 0 77 5 (.slice ya (stF s (l kk)).length yc) (stF s (l kk)).length (fiFlat s.ch (stF s (l kk))) ∧ x1.ownsRow 0 57 3 (.slice za (stW s (l kk)).length zc) (stW s (l kk)).length (waFlat (stW s (l kk)))) ∧ x1.heap[bx]? = some (.cells #[.int .i64 (stE s (l kk)), .slice fa (stF s (l kk)).length fc, .slice wa (stW s (l kk)).length wc] 66 (0, 0))) := ⟨h1, ⟨hfk _ _ _ _ (HB0.out.1.2.1), hwk _ _ _ _ (fun k e => ⟨ps.length, by simp, by simpa using e⟩) (HB0.out.1.2.2.1)⟩, ⟨hF1, hW1⟩, ht1 _ _ (HB0.out.1.2.2.2)⟩
                have HB : Hid (((Wk w x1 xa xb g ((D.setV kk v').setR kk r') (updW l kk (stL s (l kk))) (updW l kk (stL s (l kk))) wv fv (ps.map Rw.v) (qs.map Rw.v) (ps ++ [⟨.slice wa (stW s (l kk)).length wc, (stW s (l kk)).length⟩]) (qs ++ [⟨.slice fa (stF s (l kk)).length fc, (stF s (l kk)).length⟩])) ∧ (x1.ownsRow w.heap.size 77 5 (.slice fa (stF s (l kk)).length fc) (stF s (l kk)).length (fiFlat s.ch (stF s (l kk))) ∧ x1.ownsRow w.heap.size 57 3 (.slice wa (stW s (l kk)).length wc) (stW s (l kk)).length (waFlat (stW s (l kk)))) ∧ (x1.ownsRow 0 77 5 (.slice ya (stF s (l kk)).length yc) (stF s (l kk)).length (fiFlat s.ch (stF s (l kk))) ∧ x1.ownsRow 0 57 3 (.slice za (stW s (l kk)).length zc) (stW s (l kk)).length (waFlat (stW s (l kk)))) ∧ x1.heap[bx]? = some (.cells #[.int .i64 (stE s (l kk)), .slice fa (stF s (l kk)).length fc, .slice wa (stW s (l kk)).length wc] 66 (0, 0))) ∧ x1.heap[by_]? = some zeroTold ∧ w.heap.size ≤ by_ ∧ ¬ bx = by_) := ⟨H2.out, ht1 _ _ HB0.out.2.1, HB0.out.2.2⟩
                clear h1 hF1 hW1 ht1 hz1 hfk hwk
                refine hK.out _ _ (HG.out _ _ _ _ _ _ _ _ _ _ H2.out.1 rfl rfl) (fun hHeld => ?_)
                have o0 := cell_of_row _ by_ 0 _ _ _ HB.out.2.1
                have o1 := cell_of_row _ by_ 1 _ _ _ HB.out.2.1
                have o2 := cell_of_row _ by_ 2 _ _ _ HB.out.2.1
                have p0 := frozen_of_row _ by_ 0 _ _ HB.out.2.1
                have p1 := frozen_of_row _ by_ 1 _ _ HB.out.2.1
                have p2 := frozen_of_row _ by_ 2 _ _ HB.out.2.1
                have z2 := lt_of_block HB.out.2.1
                clear hK K
                refine wpAnyH_ready (rs := [9]) (by kernel_rfl) (by simp) ?_
                refine AllReadyH.cons (o := { dst := none, op := Op.store 66 (Operand.tmp 10) (Operand.tmp 81), type := 0, pos := "law.go:106", after := #[{ on := 8, ground := Ground.data }, { on := 7, ground := Ground.data }, { on := 7, ground := Ground.chain }, { on := 0, ground := Ground.phase }, { on := 1, ground := Ground.phase }, { on := 2, ground := Ground.phase }, { on := 3, ground := Ground.phase }, { on := 4, ground := Ground.phase }, { on := 5, ground := Ground.phase }, { on := 6, ground := Ground.phase }, { on := 7, ground := Ground.phase }, { on := 8, ground := Ground.phase }], guard := none }) rfl (fun K hK => ?_) AllReadyH.nil
                go_simp
                have HQ : Hid (((Wk w (((x1.setCell ⟨by_, 0, none⟩ (.int .i64 (stE s (l kk)))).setCell ⟨by_, 1, none⟩ (.slice ya (stF s (l kk)).length yc)).setCell ⟨by_, 2, none⟩ (.slice za (stW s (l kk)).length zc)) xa xb g ((D.setV kk v').setR kk r') (updW l kk (stL s (l kk))) (updW l kk (stL s (l kk))) wv fv (ps.map Rw.v) (qs.map Rw.v) (ps ++ [⟨.slice wa (stW s (l kk)).length wc, (stW s (l kk)).length⟩]) (qs ++ [⟨.slice fa (stF s (l kk)).length fc, (stF s (l kk)).length⟩])) ∧ ((((x1.setCell ⟨by_, 0, none⟩ (.int .i64 (stE s (l kk)))).setCell ⟨by_, 1, none⟩ (.slice ya (stF s (l kk)).length yc)).setCell ⟨by_, 2, none⟩ (.slice za (stW s (l kk)).length zc)).ownsRow w.heap.size 77 5 (.slice fa (stF s (l kk)).length fc) (stF s (l kk)).length (fiFlat s.ch (stF s (l kk))) ∧ (((x1.setCell ⟨by_, 0, none⟩ (.int .i64 (stE s (l kk)))).setCell ⟨by_, 1, none⟩ (.slice ya (stF s (l kk)).length yc)).setCell ⟨by_, 2, none⟩ (.slice za (stW s (l kk)).length zc)).ownsRow w.heap.size 57 3 (.slice wa (stW s (l kk)).length wc) (stW s (l kk)).length (waFlat (stW s (l kk)))) ∧ ((((x1.setCell ⟨by_, 0, none⟩ (.int .i64 (stE s (l kk)))).setCell ⟨by_, 1, none⟩ (.slice ya (stF s (l kk)).length yc)).setCell ⟨by_, 2, none⟩ (.slice za (stW s (l kk)).length zc)).ownsRow 0 77 5 (.slice ya (stF s (l kk)).length yc) (stF s (l kk)).length (fiFlat s.ch (stF s (l kk))) ∧ (((x1.setCell ⟨by_, 0, none⟩ (.int .i64 (stE s (l kk)))).setCell ⟨by_, 1, none⟩ (.slice ya (stF s (l kk)).length yc)).setCell ⟨by_, 2, none⟩ (.slice za (stW s (l kk)).length zc)).ownsRow 0 57 3 (.slice za (stW s (l kk)).length zc) (stW s (l kk)).length (waFlat (stW s (l kk)))) ∧ (((x1.setCell ⟨by_, 0, none⟩ (.int .i64 (stE s (l kk)))).setCell ⟨by_, 1, none⟩ (.slice ya (stF s (l kk)).length yc)).setCell ⟨by_, 2, none⟩ (.slice za (stW s (l kk)).length zc)).heap[bx]? = some (.cells #[.int .i64 (stE s (l kk)), .slice fa (stF s (l kk)).length fc, .slice wa (stW s (l kk)).length wc] 66 (0, 0))) ∧ (((x1.setCell ⟨by_, 0, none⟩ (.int .i64 (stE s (l kk)))).setCell ⟨by_, 1, none⟩ (.slice ya (stF s (l kk)).length yc)).setCell ⟨by_, 2, none⟩ (.slice za (stW s (l kk)).length zc)).heap[by_]? = some (.cells #[.int .i64 (stE s (l kk)), .slice ya (stF s (l kk)).length yc, .slice za (stW s (l kk)).length zc] 66 (0, 0))) := by
                  have hkt := told_kept x1 by_ (.int .i64 (stE s (l kk))) (.slice ya (stF s (l kk)).length yc) (.slice za (stW s (l kk)).length zc)
                  have hb := HB.out.2.1
                  refine ⟨⟨HB.out.1.1.box hb HB.out.2.2.1 hkt, ⟨row_box HB.out.1.2.1.1 (by decide) hb hkt, row_box HB.out.1.2.1.2 (by decide) hb hkt⟩, ⟨row_box HB.out.1.2.2.1.1 (by decide) hb hkt, row_box HB.out.1.2.2.1.2 (by decide) hb hkt⟩, hkt.heap HB.out.1.2.2.2 HB.out.2.2.2⟩, ?_⟩
                  have hrow := heap_set1 (i := 2) (.slice za (stW s (l kk)).length zc) (heap_set1 (i := 1) (.slice ya (stF s (l kk)).length yc) (heap_set1 (i := 0) (.int .i64 (stE s (l kk))) hb))
                  have e : (((#[Value.int .i64 0, Value.slice none 0 0, Value.slice none 0 0] : Array Value).setIfInBounds 0 (Value.int .i64 (stE s (l kk)))).setIfInBounds 1 (Value.slice ya (stF s (l kk)).length yc)).setIfInBounds 2 (Value.slice za (stW s (l kk)).length zc) = (#[Value.int .i64 (stE s (l kk)), Value.slice ya (stF s (l kk)).length yc, Value.slice za (stW s (l kk)).length zc] : Array Value) := by simp
                  rw [e] at hrow
                  exact hrow
                refine hK.out _ _ (HG.out _ _ _ _ _ _ _ _ _ _ HQ.out.1.1 rfl rfl) (fun hHeld => ?_)
                clear o0 o1 o2 p0 p1 p2 z2 HB H2 HB0
                generalize (((x1.setCell ⟨by_, 0, none⟩ (.int .i64 (stE s (l kk)))).setCell ⟨by_, 1, none⟩ (.slice ya (stF s (l kk)).length yc)).setCell ⟨by_, 2, none⟩ (.slice za (stW s (l kk)).length zc)) = x3 at *
                clear hK K
                refine wpAnyH_done (by kernel_rfl) ?_ _
                clear hHeld HP HG
                have q0 := cell_of_row x3 bx 0 _ _ _ HQ.out.1.2.2.2
                have q1 := cell_of_row x3 bx 1 _ _ _ HQ.out.1.2.2.2
                have q2 := cell_of_row x3 bx 2 _ _ _ HQ.out.1.2.2.2
                have r0 := cell_of_row x3 by_ 0 _ _ _ HQ.out.2
                have r1 := cell_of_row x3 by_ 1 _ _ _ HQ.out.2
                have r2 := cell_of_row x3 by_ 2 _ _ _ HQ.out.2
                have zx := lt_of_block HQ.out.1.2.2.2
                have zy := lt_of_block HQ.out.2
                go_wp2_with fail
                go_at_call 10
                refine Calls.mono (same_any HQ.out.1.2.1.1 HQ.out.1.2.2.1.1 (SW_owns HQ.out.1.2.1.2) (SW_owns HQ.out.1.2.2.1.2) (by have := stF_le s HL.out.2.2; omega) (by have := stW_le s HL.out.2.2; omega)) ?_
                rintro _ x4 ⟨rfl, b4⟩
                have HT : Hid ((Wk w x4 xa xb g ((D.setV kk v').setR kk r') (updW l kk (stL s (l kk))) (updW l kk (stL s (l kk))) wv fv (ps.map Rw.v) (qs.map Rw.v) (ps ++ [⟨.slice wa (stW s (l kk)).length wc, (stW s (l kk)).length⟩]) (qs ++ [⟨.slice fa (stF s (l kk)).length fc, (stF s (l kk)).length⟩])) ∧ x4.heap[bx]? = some (.cells #[.int .i64 (stE s (l kk)), .slice fa (stF s (l kk)).length fc, .slice wa (stW s (l kk)).length wc] 66 (0, 0))) := ⟨HQ.out.1.1.below b4, box_later HQ.out.1.2.2.2 b4⟩
                clear q0 q1 q2 r0 r1 r2 zx zy HQ b4
                have q1 := cell_of_row x4 bx 1 _ _ _ HT.out.2
                have zx := lt_of_block HT.out.2
                go_wp2_with fail
                go_at_call 11
                refine Calls.mono (addF_wk HT.out.1 HL.out.2.1) ?_
                rintro _ x5 ⟨rfl, fv', qs', h5, hq5, ht5⟩
                have HU : Hid ((Wk w x5 xa xb g ((D.setV kk v').setR kk r') (updW l kk (stL s (l kk))) (updW l kk (stL s (l kk))) wv fv' (ps.map Rw.v) (qs'.map Rw.v) (ps ++ [⟨.slice wa (stW s (l kk)).length wc, (stW s (l kk)).length⟩]) qs') ∧ qs'.length ≤ 600 ∧ x5.heap[bx]? = some (.cells #[.int .i64 (stE s (l kk)), .slice fa (stF s (l kk)).length fc, .slice wa (stW s (l kk)).length wc] 66 (0, 0))) := ⟨h5, hq5, ht5 _ _ HT.out.2⟩
                clear h5 hq5 ht5 q1 zx HT
                have q2 := cell_of_row x5 bx 2 _ _ _ HU.out.2.2
                have zx := lt_of_block HU.out.2.2
                go_wp2_with fail
                go_at_call 12
                refine Calls.mono (addW_wk0 HU.out.1 HL.out.1) ?_
                rintro _ x6 ⟨rfl, wv', ps', h6, hp6⟩
                have HN : Hid (∃ D l wv fv ps qs, Wk w x6 xa xb g D l l wv fv (ps.map Rw.v) (qs.map Rw.v) ps qs ∧ ps.length ≤ 600 ∧ qs.length ≤ 600) := ⟨_, _, _, _, _, _, h6, hp6, HU.out.2.1⟩
                clear h6 hp6 q2 zx HU
                go_wp2
                go_roundw
                case rel => exact ⟨i + 1, by omega, by simp, HN.out⟩
                case measure => simp [intOf]; omega
            · go_simp
              have B2 : Below wr.heap.size wr (wr.alloc zeroTold).drew := (show Below wr.heap.size wr wr.drew from below_drewN (Below.refl _ wr) 1).alloc (Nat.le_refl _) _
              have HB0 : Hid ((Wk w (wr.alloc zeroTold).drew xa xb g D l l wv fv (ps.map Rw.v) (qs.map Rw.v) ps qs) ∧ (wr.alloc zeroTold).drew.heap[wr.heap.size]? = some zeroTold ∧ w.heap.size ≤ wr.heap.size) := ⟨HV.out.1.below B2, heap_alloc_new _ _, HV.out.1.bel.size⟩
              clear B2
              refine hK.out _ _ (HG.out _ _ _ _ _ _ _ _ _ _ HB0.out.1 rfl rfl) (fun hHeld => ?_)
              generalize (wr.alloc zeroTold).drew = w2 at *
              generalize wr.heap.size = bx at *
              clear hK K
              refine wpAnyH_ready (rs := [7]) (by kernel_rfl) (by simp) ?_
              refine AllReadyH.cons (o := { dst := some 73, op := Op.call { callee := Callee.value (Operand.func 8), args := #[Operand.tmp 68, Operand.tmp 72], argTypes := #[25, 61] }, type := 66, pos := "law.go:105", after := #[{ on := 2, ground := Ground.data }, { on := 6, ground := Ground.data }], guard := none }) rfl (fun K hK => ?_) AllReadyH.nil
              go_simp
              refine Calls.mono (does_wk s HB0.out.1 HI.out.1 HI.out.2.1 HI.out.2.2) ?_
              rintro _ w1 ⟨uf, uw, v', rfl, h1, hF1, hW1, ht1, hz1⟩
              obtain ⟨fa, fc, rfl⟩ := rowS hF1
              obtain ⟨wa, wc, rfl⟩ := rowS hW1
              have H1 : Hid ((Wk w w1 xa xb g (D.setV kk v') (updW l kk (stL s (l kk))) l wv fv (ps.map Rw.v) (qs.map Rw.v) (ps ++ [⟨.slice wa (stW s (l kk)).length wc, (stW s (l kk)).length⟩]) (qs ++ [⟨.slice fa (stF s (l kk)).length fc, (stF s (l kk)).length⟩])) ∧ (w1.ownsRow w.heap.size 77 5 (.slice fa (stF s (l kk)).length fc) (stF s (l kk)).length (fiFlat s.ch (stF s (l kk))) ∧ w1.ownsRow w.heap.size 57 3 (.slice wa (stW s (l kk)).length wc) (stW s (l kk)).length (waFlat (stW s (l kk))))) := ⟨h1, hF1, hW1⟩
              have HB : Hid ((Wk w w1 xa xb g (D.setV kk v') (updW l kk (stL s (l kk))) l wv fv (ps.map Rw.v) (qs.map Rw.v) (ps ++ [⟨.slice wa (stW s (l kk)).length wc, (stW s (l kk)).length⟩]) (qs ++ [⟨.slice fa (stF s (l kk)).length fc, (stF s (l kk)).length⟩])) ∧ w1.ownsRow w.heap.size 77 5 (.slice fa (stF s (l kk)).length fc) (stF s (l kk)).length (fiFlat s.ch (stF s (l kk))) ∧ w1.ownsRow w.heap.size 57 3 (.slice wa (stW s (l kk)).length wc) (stW s (l kk)).length (waFlat (stW s (l kk))) ∧ w1.heap[bx]? = some zeroTold ∧ w.heap.size ≤ bx) := ⟨h1, hF1, hW1, ht1 _ _ HB0.out.2.1, HB0.out.2.2⟩
              clear h1 hF1 hW1 ht1 hz1
              refine hK.out _ _ (HG.out _ _ _ _ _ _ _ _ _ _ H1.out.1 rfl rfl) (fun hHeld => ?_)
              have o0 := cell_of_row _ bx 0 _ _ _ HB.out.2.2.2.1
              have o1 := cell_of_row _ bx 1 _ _ _ HB.out.2.2.2.1
              have o2 := cell_of_row _ bx 2 _ _ _ HB.out.2.2.2.1
              have p0 := frozen_of_row _ bx 0 _ _ HB.out.2.2.2.1
              have p1 := frozen_of_row _ bx 1 _ _ HB.out.2.2.2.1
              have p2 := frozen_of_row _ bx 2 _ _ HB.out.2.2.2.1
              have z2 := lt_of_block HB.out.2.2.2.1
              clear hK K
              refine wpAnyH_ready (rs := [9]) (by kernel_rfl) (by simp) ?_
              refine AllReadyH.cons (o := { dst := none, op := Op.store 66 (Operand.tmp 9) (Operand.tmp 73), type := 0, pos := "law.go:105", after := #[{ on := 8, ground := Ground.data }, { on := 7, ground := Ground.data }, { on := 7, ground := Ground.chain }, { on := 0, ground := Ground.phase }, { on := 1, ground := Ground.phase }, { on := 2, ground := Ground.phase }, { on := 3, ground := Ground.phase }, { on := 4, ground := Ground.phase }, { on := 5, ground := Ground.phase }, { on := 6, ground := Ground.phase }, { on := 7, ground := Ground.phase }, { on := 8, ground := Ground.phase }], guard := none }) rfl (fun K hK => ?_) AllReadyH.nil
              go_simp
              have HP : Hid ((Wk w (((w1.setCell ⟨bx, 0, none⟩ (.int .i64 (stE s (l kk)))).setCell ⟨bx, 1, none⟩ (.slice fa (stF s (l kk)).length fc)).setCell ⟨bx, 2, none⟩ (.slice wa (stW s (l kk)).length wc)) xa xb g (D.setV kk v') (updW l kk (stL s (l kk))) l wv fv (ps.map Rw.v) (qs.map Rw.v) (ps ++ [⟨.slice wa (stW s (l kk)).length wc, (stW s (l kk)).length⟩]) (qs ++ [⟨.slice fa (stF s (l kk)).length fc, (stF s (l kk)).length⟩])) ∧ (((w1.setCell ⟨bx, 0, none⟩ (.int .i64 (stE s (l kk)))).setCell ⟨bx, 1, none⟩ (.slice fa (stF s (l kk)).length fc)).setCell ⟨bx, 2, none⟩ (.slice wa (stW s (l kk)).length wc)).ownsRow w.heap.size 77 5 (.slice fa (stF s (l kk)).length fc) (stF s (l kk)).length (fiFlat s.ch (stF s (l kk))) ∧ (((w1.setCell ⟨bx, 0, none⟩ (.int .i64 (stE s (l kk)))).setCell ⟨bx, 1, none⟩ (.slice fa (stF s (l kk)).length fc)).setCell ⟨bx, 2, none⟩ (.slice wa (stW s (l kk)).length wc)).ownsRow w.heap.size 57 3 (.slice wa (stW s (l kk)).length wc) (stW s (l kk)).length (waFlat (stW s (l kk))) ∧ (((w1.setCell ⟨bx, 0, none⟩ (.int .i64 (stE s (l kk)))).setCell ⟨bx, 1, none⟩ (.slice fa (stF s (l kk)).length fc)).setCell ⟨bx, 2, none⟩ (.slice wa (stW s (l kk)).length wc)).heap[bx]? = some (.cells #[.int .i64 (stE s (l kk)), .slice fa (stF s (l kk)).length fc, .slice wa (stW s (l kk)).length wc] 66 (0, 0))) := by
                have hkt := told_kept w1 bx (.int .i64 (stE s (l kk))) (.slice fa (stF s (l kk)).length fc) (.slice wa (stW s (l kk)).length wc)
                refine ⟨HB.out.1.box HB.out.2.2.2.1 HB.out.2.2.2.2 hkt, row_box HB.out.2.1 (by decide) HB.out.2.2.2.1 hkt, row_box HB.out.2.2.1 (by decide) HB.out.2.2.2.1 hkt, ?_⟩
                have hrow := heap_set1 (i := 2) (.slice wa (stW s (l kk)).length wc) (heap_set1 (i := 1) (.slice fa (stF s (l kk)).length fc) (heap_set1 (i := 0) (.int .i64 (stE s (l kk))) HB.out.2.2.2.1))
                have e : (((#[Value.int .i64 0, Value.slice none 0 0, Value.slice none 0 0] : Array Value).setIfInBounds 0 (Value.int .i64 (stE s (l kk)))).setIfInBounds 1 (Value.slice fa (stF s (l kk)).length fc)).setIfInBounds 2 (Value.slice wa (stW s (l kk)).length wc) = (#[Value.int .i64 (stE s (l kk)), Value.slice fa (stF s (l kk)).length fc, Value.slice wa (stW s (l kk)).length wc] : Array Value) := by simp
                rw [e] at hrow
                exact hrow
              refine hK.out _ _ (HG.out _ _ _ _ _ _ _ _ _ _ HP.out.1 rfl rfl) (fun hHeld => ?_)
              clear o0 o1 o2 p0 p1 p2 z2 HB H1 HB0
              generalize (((w1.setCell ⟨bx, 0, none⟩ (.int .i64 (stE s (l kk)))).setCell ⟨bx, 1, none⟩ (.slice fa (stF s (l kk)).length fc)).setCell ⟨bx, 2, none⟩ (.slice wa (stW s (l kk)).length wc)) = w3 at *
              clear hK K
              refine wpAnyH_done (by kernel_rfl) ?_ _
              clear hHeld
              have HL : Hid (ps.length ≤ 600 ∧ qs.length ≤ 600 ∧ Wats (l kk)) := ⟨HV.out.2.1, HV.out.2.2, HV.out.1.wA kk HI.out.1⟩
              clear HV
              go_upto_region 15 with fail
              refine wp_region_held_drew (S := (fun W => W.cell? ⟨xa, kk, none⟩ = some (.pointer (some ⟨D.b kk, 0, none⟩)) ∧ W.cell? ⟨xb, kk, none⟩ = some (.pointer (some ⟨D.c kk, 0, none⟩)) ∧ W.cell? ⟨sb, off + i * 7, none⟩ = some (.int .i64 s.place) ∧ W.cell? ⟨sb, off + i * 7 + 1, none⟩ = some (.int .i64 s.what) ∧ W.cell? ⟨sb, off + i * 7 + 2, none⟩ = some (.int .i64 s.wa.1) ∧ W.cell? ⟨sb, off + i * 7 + 3, none⟩ = some (.int .i8 s.wa.2.1) ∧ W.cell? ⟨sb, off + i * 7 + 4, none⟩ = some (.string s.wa.2.2) ∧ W.cell? ⟨sb, off + i * 7 + 5, none⟩ = some (.int .i8 s.ch.1) ∧ W.cell? ⟨sb, off + i * 7 + 6, none⟩ = some (.string s.ch.2))) (by kernel_rfl) ?_ (fun hHeld => ?_)
              · exact HG.out _ _ _ _ _ _ _ _ _ _ (HP.out.1.below (below_drewN (Below.refl _ w3) 1)) rfl rfl
              refine wpAnyH_take (i := 0) (oi := { dst := some 74, op := Op.move (Operand.tmp 8), type := 3, pos := "law.go:106", after := #[], guard := none }) (v := ?_) rfl (by kernel_rfl) (by kernel_rfl) (by kernel_rfl) (fun _ _ _ h => h) (Or.inl ⟨by rfl, ?_⟩) (by assumption) ?_
              rotate_left
              · (intro w hSw; (try dsimp only at hSw); go_simp) <;> with_reducible rfl
              try simp only [Act.put, List.setIfInBounds_toArray, List.set_cons_zero, List.set_cons_succ]
              refine wpAnyH_take (i := 1) (oi := { dst := some 75, op := Op.indexAddr 30 (Operand.tmp 5) (Operand.tmp 74), type := 0, pos := "law.go:106", after := #[{ on := 0, ground := Ground.data }], guard := none }) (v := ?_) rfl (by kernel_rfl) (by kernel_rfl) (by kernel_rfl) (fun _ _ _ h => h) (Or.inl ⟨by rfl, ?_⟩) (by assumption) ?_
              rotate_left
              · (intro w hSw; (try dsimp only at hSw); go_simp) <;> with_reducible rfl
              try simp only [Act.put, List.setIfInBounds_toArray, List.set_cons_zero, List.set_cons_succ]
              refine wpAnyH_take (i := 2) (oi := { dst := some 76, op := Op.load 28 (Operand.tmp 75), type := 28, pos := "law.go:106", after := #[{ on := 1, ground := Ground.data }], guard := none }) (v := ?_) rfl (by kernel_rfl) (by kernel_rfl) (by kernel_rfl) (fun _ _ _ h => h) (Or.inl ⟨by rfl, ?_⟩) (by assumption) ?_
              rotate_left
              · (intro w hSw; (try dsimp only at hSw); go_simp) <;> with_reducible rfl
              try simp only [Act.put, List.setIfInBounds_toArray, List.set_cons_zero, List.set_cons_succ]
              refine wpAnyH_take (i := 3) (oi := { dst := some 77, op := Op.move (Operand.tmp 0), type := 22, pos := "law.go:106", after := #[], guard := none }) (v := ?_) rfl (by kernel_rfl) (by kernel_rfl) (by kernel_rfl) (fun _ _ _ h => h) (Or.inl ⟨by rfl, ?_⟩) (by assumption) ?_
              rotate_left
              · (intro w hSw; (try dsimp only at hSw); go_simp) <;> with_reducible rfl
              try simp only [Act.put, List.setIfInBounds_toArray, List.set_cons_zero, List.set_cons_succ]
              refine wpAnyH_take (i := 4) (oi := { dst := some 78, op := Op.move (Operand.tmp 7), type := 3, pos := "law.go:106", after := #[], guard := none }) (v := ?_) rfl (by kernel_rfl) (by kernel_rfl) (by kernel_rfl) (fun _ _ _ h => h) (Or.inl ⟨by rfl, ?_⟩) (by assumption) ?_
              rotate_left
              · (intro w hSw; (try dsimp only at hSw); go_simp) <;> with_reducible rfl
              try simp only [Act.put, List.setIfInBounds_toArray, List.set_cons_zero, List.set_cons_succ]
              refine wpAnyH_take (i := 5) (oi := { dst := some 79, op := Op.indexAddr 22 (Operand.tmp 77) (Operand.tmp 78), type := 0, pos := "law.go:106", after := #[{ on := 3, ground := Ground.data }, { on := 4, ground := Ground.data }], guard := none }) (v := ?_) rfl (by kernel_rfl) (by kernel_rfl) (by kernel_rfl) (fun _ _ _ h => h) (Or.inl ⟨by rfl, ?_⟩) (by assumption) ?_
              rotate_left
              · (intro w hSw; (try dsimp only at hSw); go_simp) <;> with_reducible rfl
              try simp only [Act.put, List.setIfInBounds_toArray, List.set_cons_zero, List.set_cons_succ]
              refine wpAnyH_take (i := 6) (oi := { dst := some 80, op := Op.load 61 (Operand.tmp 79), type := 61, pos := "law.go:106", after := #[{ on := 5, ground := Ground.data }], guard := none }) (v := ?_) rfl (by kernel_rfl) (by kernel_rfl) (by kernel_rfl) (fun _ _ _ h => h) (Or.inl ⟨by rfl, ?_⟩) (by assumption) ?_
              rotate_left
              · (intro w hSw; (try dsimp only at hSw); go_simp) <;> with_reducible rfl
              try simp only [Act.put, List.setIfInBounds_toArray, List.set_cons_zero, List.set_cons_succ]
              refine wpAnyH_ready (rs := [7, 8]) (by kernel_rfl) (by simp) ?_
              refine AllReadyH.cons (o := { dst := some 81, op := Op.call { callee := Callee.value (Operand.func 9), args := #[Operand.tmp 76, Operand.tmp 80], argTypes := #[28, 61] }, type := 66, pos := "law.go:106", after := #[{ on := 2, ground := Ground.data }, { on := 6, ground := Ground.data }], guard := none }) rfl (fun K hK => ?_) (AllReadyH.cons (o := { dst := some 10, op := Op.alloc 66, type := 0, pos := "law.go:106", after := #[], guard := none }) rfl (fun K hK => ?_) AllReadyH.nil)
              · go_simp
                refine Calls.mono (wants_wk (D := D.setV kk v') s (HP.out.1.below (below_drewN (Below.refl _ w3) 1)) HI.out.1 HI.out.2.1 HI.out.2.2) ?_
                rintro _ x1 ⟨yf, yw, r', rfl, h1, hF1, hW1, ht1, hfk, hwk, hz1⟩
                obtain ⟨ya, yc, rfl⟩ := rowS hF1
                obtain ⟨za, zc, rfl⟩ := rowS hW1
                have H2 : Hid ((Wk w x1 xa xb g ((D.setV kk v').setR kk r') (updW l kk (stL s (l kk))) (updW l kk (stL s (l kk))) wv fv (ps.map Rw.v) (qs.map Rw.v) (ps ++ [⟨.slice wa (stW s (l kk)).length wc, (stW s (l kk)).length⟩]) (qs ++ [⟨.slice fa (stF s (l kk)).length fc, (stF s (l kk)).length⟩])) ∧ (x1.ownsRow w.heap.size 77 5 (.slice fa (stF s (l kk)).length fc) (stF s (l kk)).length (fiFlat s.ch (stF s (l kk))) ∧ x1.ownsRow w.heap.size 57 3 (.slice wa (stW s (l kk)).length wc) (stW s (l kk)).length (waFlat (stW s (l kk)))) ∧ (x1.ownsRow 0 77 5 (.slice ya (stF s (l kk)).length yc) (stF s (l kk)).length (fiFlat s.ch (stF s (l kk))) ∧ x1.ownsRow 0 57 3 (.slice za (stW s (l kk)).length zc) (stW s (l kk)).length (waFlat (stW s (l kk)))) ∧ x1.heap[bx]? = some (.cells #[.int .i64 (stE s (l kk)), .slice fa (stF s (l kk)).length fc, .slice wa (stW s (l kk)).length wc] 66 (0, 0))) := ⟨h1, ⟨hfk _ _ _ _ (rowK (HP.out.2.1) (Below.kept (below_drewN (Below.refl w3.heap.size w3) 1)) (fun k hk => by have := (HP.out.2.1.lt k hk).2; omega)), hwk _ _ _ _ (fun k e => ⟨ps.length, by simp, by simpa using e⟩) (rowK (HP.out.2.2.1) (Below.kept (below_drewN (Below.refl w3.heap.size w3) 1)) (fun k hk => by have := (HP.out.2.2.1.lt k hk).2; omega))⟩, ⟨hF1, hW1⟩, ht1 _ _ (box_later HP.out.2.2.2 (below_drewN (Below.refl _ w3) 1))⟩
                clear h1 hF1 hW1 ht1 hz1 hfk hwk
                refine hK.out _ _ (HG.out _ _ _ _ _ _ _ _ _ _ H2.out.1 rfl rfl) (fun hHeld => ?_)
                clear hK K
                refine wpAnyH_ready (rs := [8]) (by kernel_rfl) (by simp) ?_
                refine AllReadyH.cons (o := { dst := some 10, op := Op.alloc 66, type := 0, pos := "law.go:106", after := #[], guard := none }) rfl (fun K hK => ?_) AllReadyH.nil
                go_simp
                have B2 : Below x1.heap.size x1 (x1.alloc zeroTold) := (Below.refl _ _).alloc (Nat.le_refl _) _
                have HB : Hid (((Wk w (x1.alloc zeroTold) xa xb g ((D.setV kk v').setR kk r') (updW l kk (stL s (l kk))) (updW l kk (stL s (l kk))) wv fv (ps.map Rw.v) (qs.map Rw.v) (ps ++ [⟨.slice wa (stW s (l kk)).length wc, (stW s (l kk)).length⟩]) (qs ++ [⟨.slice fa (stF s (l kk)).length fc, (stF s (l kk)).length⟩])) ∧ ((x1.alloc zeroTold).ownsRow w.heap.size 77 5 (.slice fa (stF s (l kk)).length fc) (stF s (l kk)).length (fiFlat s.ch (stF s (l kk))) ∧ (x1.alloc zeroTold).ownsRow w.heap.size 57 3 (.slice wa (stW s (l kk)).length wc) (stW s (l kk)).length (waFlat (stW s (l kk)))) ∧ ((x1.alloc zeroTold).ownsRow 0 77 5 (.slice ya (stF s (l kk)).length yc) (stF s (l kk)).length (fiFlat s.ch (stF s (l kk))) ∧ (x1.alloc zeroTold).ownsRow 0 57 3 (.slice za (stW s (l kk)).length zc) (stW s (l kk)).length (waFlat (stW s (l kk)))) ∧ (x1.alloc zeroTold).heap[bx]? = some (.cells #[.int .i64 (stE s (l kk)), .slice fa (stF s (l kk)).length fc, .slice wa (stW s (l kk)).length wc] 66 (0, 0))) ∧ (x1.alloc zeroTold).heap[x1.heap.size]? = some zeroTold ∧ w.heap.size ≤ x1.heap.size ∧ ¬ bx = x1.heap.size) := ⟨⟨H2.out.1.below B2, ⟨rowK (H2.out.2.1.1) (Below.kept B2) (fun k hk => by have := (H2.out.2.1.1.lt k hk).2; omega), rowK (H2.out.2.1.2) (Below.kept B2) (fun k hk => by have := (H2.out.2.1.2.lt k hk).2; omega)⟩, ⟨rowK (H2.out.2.2.1.1) (Below.kept B2) (fun k hk => by have := (H2.out.2.2.1.1.lt k hk).2; omega), rowK (H2.out.2.2.1.2) (Below.kept B2) (fun k hk => by have := (H2.out.2.2.1.2.lt k hk).2; omega)⟩, box_later H2.out.2.2.2 B2⟩, heap_alloc_new _ _, H2.out.1.bel.size, fun e => by have := lt_of_block H2.out.2.2.2; omega⟩
                clear B2
                refine hK.out _ _ (HG.out _ _ _ _ _ _ _ _ _ _ HB.out.1.1 rfl rfl) (fun hHeld => ?_)
                generalize x1.heap.size = by_ at *
                generalize x1.alloc zeroTold = x2 at *
                have o0 := cell_of_row _ by_ 0 _ _ _ HB.out.2.1
                have o1 := cell_of_row _ by_ 1 _ _ _ HB.out.2.1
                have o2 := cell_of_row _ by_ 2 _ _ _ HB.out.2.1
                have p0 := frozen_of_row _ by_ 0 _ _ HB.out.2.1
                have p1 := frozen_of_row _ by_ 1 _ _ HB.out.2.1
                have p2 := frozen_of_row _ by_ 2 _ _ HB.out.2.1
                have z2 := lt_of_block HB.out.2.1
                clear hK K
                refine wpAnyH_ready (rs := [9]) (by kernel_rfl) (by simp) ?_
                refine AllReadyH.cons (o := { dst := none, op := Op.store 66 (Operand.tmp 10) (Operand.tmp 81), type := 0, pos := "law.go:106", after := #[{ on := 8, ground := Ground.data }, { on := 7, ground := Ground.data }, { on := 7, ground := Ground.chain }, { on := 0, ground := Ground.phase }, { on := 1, ground := Ground.phase }, { on := 2, ground := Ground.phase }, { on := 3, ground := Ground.phase }, { on := 4, ground := Ground.phase }, { on := 5, ground := Ground.phase }, { on := 6, ground := Ground.phase }, { on := 7, ground := Ground.phase }, { on := 8, ground := Ground.phase }], guard := none }) rfl (fun K hK => ?_) AllReadyH.nil
                go_simp
                have HQ : Hid (((Wk w (((x2.setCell ⟨by_, 0, none⟩ (.int .i64 (stE s (l kk)))).setCell ⟨by_, 1, none⟩ (.slice ya (stF s (l kk)).length yc)).setCell ⟨by_, 2, none⟩ (.slice za (stW s (l kk)).length zc)) xa xb g ((D.setV kk v').setR kk r') (updW l kk (stL s (l kk))) (updW l kk (stL s (l kk))) wv fv (ps.map Rw.v) (qs.map Rw.v) (ps ++ [⟨.slice wa (stW s (l kk)).length wc, (stW s (l kk)).length⟩]) (qs ++ [⟨.slice fa (stF s (l kk)).length fc, (stF s (l kk)).length⟩])) ∧ ((((x2.setCell ⟨by_, 0, none⟩ (.int .i64 (stE s (l kk)))).setCell ⟨by_, 1, none⟩ (.slice ya (stF s (l kk)).length yc)).setCell ⟨by_, 2, none⟩ (.slice za (stW s (l kk)).length zc)).ownsRow w.heap.size 77 5 (.slice fa (stF s (l kk)).length fc) (stF s (l kk)).length (fiFlat s.ch (stF s (l kk))) ∧ (((x2.setCell ⟨by_, 0, none⟩ (.int .i64 (stE s (l kk)))).setCell ⟨by_, 1, none⟩ (.slice ya (stF s (l kk)).length yc)).setCell ⟨by_, 2, none⟩ (.slice za (stW s (l kk)).length zc)).ownsRow w.heap.size 57 3 (.slice wa (stW s (l kk)).length wc) (stW s (l kk)).length (waFlat (stW s (l kk)))) ∧ ((((x2.setCell ⟨by_, 0, none⟩ (.int .i64 (stE s (l kk)))).setCell ⟨by_, 1, none⟩ (.slice ya (stF s (l kk)).length yc)).setCell ⟨by_, 2, none⟩ (.slice za (stW s (l kk)).length zc)).ownsRow 0 77 5 (.slice ya (stF s (l kk)).length yc) (stF s (l kk)).length (fiFlat s.ch (stF s (l kk))) ∧ (((x2.setCell ⟨by_, 0, none⟩ (.int .i64 (stE s (l kk)))).setCell ⟨by_, 1, none⟩ (.slice ya (stF s (l kk)).length yc)).setCell ⟨by_, 2, none⟩ (.slice za (stW s (l kk)).length zc)).ownsRow 0 57 3 (.slice za (stW s (l kk)).length zc) (stW s (l kk)).length (waFlat (stW s (l kk)))) ∧ (((x2.setCell ⟨by_, 0, none⟩ (.int .i64 (stE s (l kk)))).setCell ⟨by_, 1, none⟩ (.slice ya (stF s (l kk)).length yc)).setCell ⟨by_, 2, none⟩ (.slice za (stW s (l kk)).length zc)).heap[bx]? = some (.cells #[.int .i64 (stE s (l kk)), .slice fa (stF s (l kk)).length fc, .slice wa (stW s (l kk)).length wc] 66 (0, 0))) ∧ (((x2.setCell ⟨by_, 0, none⟩ (.int .i64 (stE s (l kk)))).setCell ⟨by_, 1, none⟩ (.slice ya (stF s (l kk)).length yc)).setCell ⟨by_, 2, none⟩ (.slice za (stW s (l kk)).length zc)).heap[by_]? = some (.cells #[.int .i64 (stE s (l kk)), .slice ya (stF s (l kk)).length yc, .slice za (stW s (l kk)).length zc] 66 (0, 0))) := by
                  have hkt := told_kept x2 by_ (.int .i64 (stE s (l kk))) (.slice ya (stF s (l kk)).length yc) (.slice za (stW s (l kk)).length zc)
                  have hb := HB.out.2.1
                  refine ⟨⟨HB.out.1.1.box hb HB.out.2.2.1 hkt, ⟨row_box HB.out.1.2.1.1 (by decide) hb hkt, row_box HB.out.1.2.1.2 (by decide) hb hkt⟩, ⟨row_box HB.out.1.2.2.1.1 (by decide) hb hkt, row_box HB.out.1.2.2.1.2 (by decide) hb hkt⟩, hkt.heap HB.out.1.2.2.2 HB.out.2.2.2⟩, ?_⟩
                  have hrow := heap_set1 (i := 2) (.slice za (stW s (l kk)).length zc) (heap_set1 (i := 1) (.slice ya (stF s (l kk)).length yc) (heap_set1 (i := 0) (.int .i64 (stE s (l kk))) hb))
                  have e : (((#[Value.int .i64 0, Value.slice none 0 0, Value.slice none 0 0] : Array Value).setIfInBounds 0 (Value.int .i64 (stE s (l kk)))).setIfInBounds 1 (Value.slice ya (stF s (l kk)).length yc)).setIfInBounds 2 (Value.slice za (stW s (l kk)).length zc) = (#[Value.int .i64 (stE s (l kk)), Value.slice ya (stF s (l kk)).length yc, Value.slice za (stW s (l kk)).length zc] : Array Value) := by simp
                  rw [e] at hrow
                  exact hrow
                refine hK.out _ _ (HG.out _ _ _ _ _ _ _ _ _ _ HQ.out.1.1 rfl rfl) (fun hHeld => ?_)
                clear o0 o1 o2 p0 p1 p2 z2 HB H2
                generalize (((x2.setCell ⟨by_, 0, none⟩ (.int .i64 (stE s (l kk)))).setCell ⟨by_, 1, none⟩ (.slice ya (stF s (l kk)).length yc)).setCell ⟨by_, 2, none⟩ (.slice za (stW s (l kk)).length zc)) = x3 at *
                clear hK K
                refine wpAnyH_done (by kernel_rfl) ?_ _
                clear hHeld HP HG
                have q0 := cell_of_row x3 bx 0 _ _ _ HQ.out.1.2.2.2
                have q1 := cell_of_row x3 bx 1 _ _ _ HQ.out.1.2.2.2
                have q2 := cell_of_row x3 bx 2 _ _ _ HQ.out.1.2.2.2
                have r0 := cell_of_row x3 by_ 0 _ _ _ HQ.out.2
                have r1 := cell_of_row x3 by_ 1 _ _ _ HQ.out.2
                have r2 := cell_of_row x3 by_ 2 _ _ _ HQ.out.2
                have zx := lt_of_block HQ.out.1.2.2.2
                have zy := lt_of_block HQ.out.2
                go_wp2_with fail
                go_at_call 10
                refine Calls.mono (same_any HQ.out.1.2.1.1 HQ.out.1.2.2.1.1 (SW_owns HQ.out.1.2.1.2) (SW_owns HQ.out.1.2.2.1.2) (by have := stF_le s HL.out.2.2; omega) (by have := stW_le s HL.out.2.2; omega)) ?_
                rintro _ x4 ⟨rfl, b4⟩
                have HT : Hid ((Wk w x4 xa xb g ((D.setV kk v').setR kk r') (updW l kk (stL s (l kk))) (updW l kk (stL s (l kk))) wv fv (ps.map Rw.v) (qs.map Rw.v) (ps ++ [⟨.slice wa (stW s (l kk)).length wc, (stW s (l kk)).length⟩]) (qs ++ [⟨.slice fa (stF s (l kk)).length fc, (stF s (l kk)).length⟩])) ∧ x4.heap[bx]? = some (.cells #[.int .i64 (stE s (l kk)), .slice fa (stF s (l kk)).length fc, .slice wa (stW s (l kk)).length wc] 66 (0, 0))) := ⟨HQ.out.1.1.below b4, box_later HQ.out.1.2.2.2 b4⟩
                clear q0 q1 q2 r0 r1 r2 zx zy HQ b4
                have q1 := cell_of_row x4 bx 1 _ _ _ HT.out.2
                have zx := lt_of_block HT.out.2
                go_wp2_with fail
                go_at_call 11
                refine Calls.mono (addF_wk HT.out.1 HL.out.2.1) ?_
                rintro _ x5 ⟨rfl, fv', qs', h5, hq5, ht5⟩
                have HU : Hid ((Wk w x5 xa xb g ((D.setV kk v').setR kk r') (updW l kk (stL s (l kk))) (updW l kk (stL s (l kk))) wv fv' (ps.map Rw.v) (qs'.map Rw.v) (ps ++ [⟨.slice wa (stW s (l kk)).length wc, (stW s (l kk)).length⟩]) qs') ∧ qs'.length ≤ 600 ∧ x5.heap[bx]? = some (.cells #[.int .i64 (stE s (l kk)), .slice fa (stF s (l kk)).length fc, .slice wa (stW s (l kk)).length wc] 66 (0, 0))) := ⟨h5, hq5, ht5 _ _ HT.out.2⟩
                clear h5 hq5 ht5 q1 zx HT
                have q2 := cell_of_row x5 bx 2 _ _ _ HU.out.2.2
                have zx := lt_of_block HU.out.2.2
                go_wp2_with fail
                go_at_call 12
                refine Calls.mono (addW_wk0 HU.out.1 HL.out.1) ?_
                rintro _ x6 ⟨rfl, wv', ps', h6, hp6⟩
                have HN : Hid (∃ D l wv fv ps qs, Wk w x6 xa xb g D l l wv fv (ps.map Rw.v) (qs.map Rw.v) ps qs ∧ ps.length ≤ 600 ∧ qs.length ≤ 600) := ⟨_, _, _, _, _, _, h6, hp6, HU.out.2.1⟩
                clear h6 hp6 q2 zx HU
                go_wp2
                go_roundw
                case rel => exact ⟨i + 1, by omega, by simp, HN.out⟩
                case measure => simp [intOf]; omega
              · go_simp
                have B2 : Below w3.heap.size w3 (w3.alloc zeroTold).drew := (show Below w3.heap.size w3 w3.drew from below_drewN (Below.refl _ w3) 1).alloc (Nat.le_refl _) _
                have HB0 : Hid (((Wk w (w3.alloc zeroTold).drew xa xb g (D.setV kk v') (updW l kk (stL s (l kk))) l wv fv (ps.map Rw.v) (qs.map Rw.v) (ps ++ [⟨.slice wa (stW s (l kk)).length wc, (stW s (l kk)).length⟩]) (qs ++ [⟨.slice fa (stF s (l kk)).length fc, (stF s (l kk)).length⟩])) ∧ (w3.alloc zeroTold).drew.ownsRow w.heap.size 77 5 (.slice fa (stF s (l kk)).length fc) (stF s (l kk)).length (fiFlat s.ch (stF s (l kk))) ∧ (w3.alloc zeroTold).drew.ownsRow w.heap.size 57 3 (.slice wa (stW s (l kk)).length wc) (stW s (l kk)).length (waFlat (stW s (l kk))) ∧ (w3.alloc zeroTold).drew.heap[bx]? = some (.cells #[.int .i64 (stE s (l kk)), .slice fa (stF s (l kk)).length fc, .slice wa (stW s (l kk)).length wc] 66 (0, 0))) ∧ (w3.alloc zeroTold).drew.heap[w3.heap.size]? = some zeroTold ∧ w.heap.size ≤ w3.heap.size ∧ ¬ bx = w3.heap.size) := ⟨⟨HP.out.1.below B2, rowK (HP.out.2.1) (Below.kept B2) (fun k hk => by have := (HP.out.2.1.lt k hk).2; omega), rowK (HP.out.2.2.1) (Below.kept B2) (fun k hk => by have := (HP.out.2.2.1.lt k hk).2; omega), box_later HP.out.2.2.2 B2⟩, heap_alloc_new _ _, HP.out.1.bel.size, fun e => by have := lt_of_block HP.out.2.2.2; omega⟩
                clear B2
                refine hK.out _ _ (HG.out _ _ _ _ _ _ _ _ _ _ HB0.out.1.1 rfl rfl) (fun hHeld => ?_)
                generalize (w3.alloc zeroTold).drew = x2 at *
                generalize w3.heap.size = by_ at *
                clear hK K
                refine wpAnyH_ready (rs := [7]) (by kernel_rfl) (by simp) ?_
                refine AllReadyH.cons (o := { dst := some 81, op := Op.call { callee := Callee.value (Operand.func 9), args := #[Operand.tmp 76, Operand.tmp 80], argTypes := #[28, 61] }, type := 66, pos := "law.go:106", after := #[{ on := 2, ground := Ground.data }, { on := 6, ground := Ground.data }], guard := none }) rfl (fun K hK => ?_) AllReadyH.nil
                go_simp
                refine Calls.mono (wants_wk (D := D.setV kk v') s HB0.out.1.1 HI.out.1 HI.out.2.1 HI.out.2.2) ?_
                rintro _ x1 ⟨yf, yw, r', rfl, h1, hF1, hW1, ht1, hfk, hwk, hz1⟩
                obtain ⟨ya, yc, rfl⟩ := rowS hF1
                obtain ⟨za, zc, rfl⟩ := rowS hW1
                have H2 : Hid ((Wk w x1 xa xb g ((D.setV kk v').setR kk r') (updW l kk (stL s (l kk))) (updW l kk (stL s (l kk))) wv fv (ps.map Rw.v) (qs.map Rw.v) (ps ++ [⟨.slice wa (stW s (l kk)).length wc, (stW s (l kk)).length⟩]) (qs ++ [⟨.slice fa (stF s (l kk)).length fc, (stF s (l kk)).length⟩])) ∧ (x1.ownsRow w.heap.size 77 5 (.slice fa (stF s (l kk)).length fc) (stF s (l kk)).length (fiFlat s.ch (stF s (l kk))) ∧ x1.ownsRow w.heap.size 57 3 (.slice wa (stW s (l kk)).length wc) (stW s (l kk)).length (waFlat (stW s (l kk)))) ∧ (x1.ownsRow 0 77 5 (.slice ya (stF s (l kk)).length yc) (stF s (l kk)).length (fiFlat s.ch (stF s (l kk))) ∧ x1.ownsRow 0 57 3 (.slice za (stW s (l kk)).length zc) (stW s (l kk)).length (waFlat (stW s (l kk)))) ∧ x1.heap[bx]? = some (.cells #[.int .i64 (stE s (l kk)), .slice fa (stF s (l kk)).length fc, .slice wa (stW s (l kk)).length wc] 66 (0, 0))) := ⟨h1, ⟨hfk _ _ _ _ (HB0.out.1.2.1), hwk _ _ _ _ (fun k e => ⟨ps.length, by simp, by simpa using e⟩) (HB0.out.1.2.2.1)⟩, ⟨hF1, hW1⟩, ht1 _ _ (HB0.out.1.2.2.2)⟩
                have HB : Hid (((Wk w x1 xa xb g ((D.setV kk v').setR kk r') (updW l kk (stL s (l kk))) (updW l kk (stL s (l kk))) wv fv (ps.map Rw.v) (qs.map Rw.v) (ps ++ [⟨.slice wa (stW s (l kk)).length wc, (stW s (l kk)).length⟩]) (qs ++ [⟨.slice fa (stF s (l kk)).length fc, (stF s (l kk)).length⟩])) ∧ (x1.ownsRow w.heap.size 77 5 (.slice fa (stF s (l kk)).length fc) (stF s (l kk)).length (fiFlat s.ch (stF s (l kk))) ∧ x1.ownsRow w.heap.size 57 3 (.slice wa (stW s (l kk)).length wc) (stW s (l kk)).length (waFlat (stW s (l kk)))) ∧ (x1.ownsRow 0 77 5 (.slice ya (stF s (l kk)).length yc) (stF s (l kk)).length (fiFlat s.ch (stF s (l kk))) ∧ x1.ownsRow 0 57 3 (.slice za (stW s (l kk)).length zc) (stW s (l kk)).length (waFlat (stW s (l kk)))) ∧ x1.heap[bx]? = some (.cells #[.int .i64 (stE s (l kk)), .slice fa (stF s (l kk)).length fc, .slice wa (stW s (l kk)).length wc] 66 (0, 0))) ∧ x1.heap[by_]? = some zeroTold ∧ w.heap.size ≤ by_ ∧ ¬ bx = by_) := ⟨H2.out, ht1 _ _ HB0.out.2.1, HB0.out.2.2⟩
                clear h1 hF1 hW1 ht1 hz1 hfk hwk
                refine hK.out _ _ (HG.out _ _ _ _ _ _ _ _ _ _ H2.out.1 rfl rfl) (fun hHeld => ?_)
                have o0 := cell_of_row _ by_ 0 _ _ _ HB.out.2.1
                have o1 := cell_of_row _ by_ 1 _ _ _ HB.out.2.1
                have o2 := cell_of_row _ by_ 2 _ _ _ HB.out.2.1
                have p0 := frozen_of_row _ by_ 0 _ _ HB.out.2.1
                have p1 := frozen_of_row _ by_ 1 _ _ HB.out.2.1
                have p2 := frozen_of_row _ by_ 2 _ _ HB.out.2.1
                have z2 := lt_of_block HB.out.2.1
                clear hK K
                refine wpAnyH_ready (rs := [9]) (by kernel_rfl) (by simp) ?_
                refine AllReadyH.cons (o := { dst := none, op := Op.store 66 (Operand.tmp 10) (Operand.tmp 81), type := 0, pos := "law.go:106", after := #[{ on := 8, ground := Ground.data }, { on := 7, ground := Ground.data }, { on := 7, ground := Ground.chain }, { on := 0, ground := Ground.phase }, { on := 1, ground := Ground.phase }, { on := 2, ground := Ground.phase }, { on := 3, ground := Ground.phase }, { on := 4, ground := Ground.phase }, { on := 5, ground := Ground.phase }, { on := 6, ground := Ground.phase }, { on := 7, ground := Ground.phase }, { on := 8, ground := Ground.phase }], guard := none }) rfl (fun K hK => ?_) AllReadyH.nil
                go_simp
                have HQ : Hid (((Wk w (((x1.setCell ⟨by_, 0, none⟩ (.int .i64 (stE s (l kk)))).setCell ⟨by_, 1, none⟩ (.slice ya (stF s (l kk)).length yc)).setCell ⟨by_, 2, none⟩ (.slice za (stW s (l kk)).length zc)) xa xb g ((D.setV kk v').setR kk r') (updW l kk (stL s (l kk))) (updW l kk (stL s (l kk))) wv fv (ps.map Rw.v) (qs.map Rw.v) (ps ++ [⟨.slice wa (stW s (l kk)).length wc, (stW s (l kk)).length⟩]) (qs ++ [⟨.slice fa (stF s (l kk)).length fc, (stF s (l kk)).length⟩])) ∧ ((((x1.setCell ⟨by_, 0, none⟩ (.int .i64 (stE s (l kk)))).setCell ⟨by_, 1, none⟩ (.slice ya (stF s (l kk)).length yc)).setCell ⟨by_, 2, none⟩ (.slice za (stW s (l kk)).length zc)).ownsRow w.heap.size 77 5 (.slice fa (stF s (l kk)).length fc) (stF s (l kk)).length (fiFlat s.ch (stF s (l kk))) ∧ (((x1.setCell ⟨by_, 0, none⟩ (.int .i64 (stE s (l kk)))).setCell ⟨by_, 1, none⟩ (.slice ya (stF s (l kk)).length yc)).setCell ⟨by_, 2, none⟩ (.slice za (stW s (l kk)).length zc)).ownsRow w.heap.size 57 3 (.slice wa (stW s (l kk)).length wc) (stW s (l kk)).length (waFlat (stW s (l kk)))) ∧ ((((x1.setCell ⟨by_, 0, none⟩ (.int .i64 (stE s (l kk)))).setCell ⟨by_, 1, none⟩ (.slice ya (stF s (l kk)).length yc)).setCell ⟨by_, 2, none⟩ (.slice za (stW s (l kk)).length zc)).ownsRow 0 77 5 (.slice ya (stF s (l kk)).length yc) (stF s (l kk)).length (fiFlat s.ch (stF s (l kk))) ∧ (((x1.setCell ⟨by_, 0, none⟩ (.int .i64 (stE s (l kk)))).setCell ⟨by_, 1, none⟩ (.slice ya (stF s (l kk)).length yc)).setCell ⟨by_, 2, none⟩ (.slice za (stW s (l kk)).length zc)).ownsRow 0 57 3 (.slice za (stW s (l kk)).length zc) (stW s (l kk)).length (waFlat (stW s (l kk)))) ∧ (((x1.setCell ⟨by_, 0, none⟩ (.int .i64 (stE s (l kk)))).setCell ⟨by_, 1, none⟩ (.slice ya (stF s (l kk)).length yc)).setCell ⟨by_, 2, none⟩ (.slice za (stW s (l kk)).length zc)).heap[bx]? = some (.cells #[.int .i64 (stE s (l kk)), .slice fa (stF s (l kk)).length fc, .slice wa (stW s (l kk)).length wc] 66 (0, 0))) ∧ (((x1.setCell ⟨by_, 0, none⟩ (.int .i64 (stE s (l kk)))).setCell ⟨by_, 1, none⟩ (.slice ya (stF s (l kk)).length yc)).setCell ⟨by_, 2, none⟩ (.slice za (stW s (l kk)).length zc)).heap[by_]? = some (.cells #[.int .i64 (stE s (l kk)), .slice ya (stF s (l kk)).length yc, .slice za (stW s (l kk)).length zc] 66 (0, 0))) := by
                  have hkt := told_kept x1 by_ (.int .i64 (stE s (l kk))) (.slice ya (stF s (l kk)).length yc) (.slice za (stW s (l kk)).length zc)
                  have hb := HB.out.2.1
                  refine ⟨⟨HB.out.1.1.box hb HB.out.2.2.1 hkt, ⟨row_box HB.out.1.2.1.1 (by decide) hb hkt, row_box HB.out.1.2.1.2 (by decide) hb hkt⟩, ⟨row_box HB.out.1.2.2.1.1 (by decide) hb hkt, row_box HB.out.1.2.2.1.2 (by decide) hb hkt⟩, hkt.heap HB.out.1.2.2.2 HB.out.2.2.2⟩, ?_⟩
                  have hrow := heap_set1 (i := 2) (.slice za (stW s (l kk)).length zc) (heap_set1 (i := 1) (.slice ya (stF s (l kk)).length yc) (heap_set1 (i := 0) (.int .i64 (stE s (l kk))) hb))
                  have e : (((#[Value.int .i64 0, Value.slice none 0 0, Value.slice none 0 0] : Array Value).setIfInBounds 0 (Value.int .i64 (stE s (l kk)))).setIfInBounds 1 (Value.slice ya (stF s (l kk)).length yc)).setIfInBounds 2 (Value.slice za (stW s (l kk)).length zc) = (#[Value.int .i64 (stE s (l kk)), Value.slice ya (stF s (l kk)).length yc, Value.slice za (stW s (l kk)).length zc] : Array Value) := by simp
                  rw [e] at hrow
                  exact hrow
                refine hK.out _ _ (HG.out _ _ _ _ _ _ _ _ _ _ HQ.out.1.1 rfl rfl) (fun hHeld => ?_)
                clear o0 o1 o2 p0 p1 p2 z2 HB H2 HB0
                generalize (((x1.setCell ⟨by_, 0, none⟩ (.int .i64 (stE s (l kk)))).setCell ⟨by_, 1, none⟩ (.slice ya (stF s (l kk)).length yc)).setCell ⟨by_, 2, none⟩ (.slice za (stW s (l kk)).length zc)) = x3 at *
                clear hK K
                refine wpAnyH_done (by kernel_rfl) ?_ _
                clear hHeld HP HG
                have q0 := cell_of_row x3 bx 0 _ _ _ HQ.out.1.2.2.2
                have q1 := cell_of_row x3 bx 1 _ _ _ HQ.out.1.2.2.2
                have q2 := cell_of_row x3 bx 2 _ _ _ HQ.out.1.2.2.2
                have r0 := cell_of_row x3 by_ 0 _ _ _ HQ.out.2
                have r1 := cell_of_row x3 by_ 1 _ _ _ HQ.out.2
                have r2 := cell_of_row x3 by_ 2 _ _ _ HQ.out.2
                have zx := lt_of_block HQ.out.1.2.2.2
                have zy := lt_of_block HQ.out.2
                go_wp2_with fail
                go_at_call 10
                refine Calls.mono (same_any HQ.out.1.2.1.1 HQ.out.1.2.2.1.1 (SW_owns HQ.out.1.2.1.2) (SW_owns HQ.out.1.2.2.1.2) (by have := stF_le s HL.out.2.2; omega) (by have := stW_le s HL.out.2.2; omega)) ?_
                rintro _ x4 ⟨rfl, b4⟩
                have HT : Hid ((Wk w x4 xa xb g ((D.setV kk v').setR kk r') (updW l kk (stL s (l kk))) (updW l kk (stL s (l kk))) wv fv (ps.map Rw.v) (qs.map Rw.v) (ps ++ [⟨.slice wa (stW s (l kk)).length wc, (stW s (l kk)).length⟩]) (qs ++ [⟨.slice fa (stF s (l kk)).length fc, (stF s (l kk)).length⟩])) ∧ x4.heap[bx]? = some (.cells #[.int .i64 (stE s (l kk)), .slice fa (stF s (l kk)).length fc, .slice wa (stW s (l kk)).length wc] 66 (0, 0))) := ⟨HQ.out.1.1.below b4, box_later HQ.out.1.2.2.2 b4⟩
                clear q0 q1 q2 r0 r1 r2 zx zy HQ b4
                have q1 := cell_of_row x4 bx 1 _ _ _ HT.out.2
                have zx := lt_of_block HT.out.2
                go_wp2_with fail
                go_at_call 11
                refine Calls.mono (addF_wk HT.out.1 HL.out.2.1) ?_
                rintro _ x5 ⟨rfl, fv', qs', h5, hq5, ht5⟩
                have HU : Hid ((Wk w x5 xa xb g ((D.setV kk v').setR kk r') (updW l kk (stL s (l kk))) (updW l kk (stL s (l kk))) wv fv' (ps.map Rw.v) (qs'.map Rw.v) (ps ++ [⟨.slice wa (stW s (l kk)).length wc, (stW s (l kk)).length⟩]) qs') ∧ qs'.length ≤ 600 ∧ x5.heap[bx]? = some (.cells #[.int .i64 (stE s (l kk)), .slice fa (stF s (l kk)).length fc, .slice wa (stW s (l kk)).length wc] 66 (0, 0))) := ⟨h5, hq5, ht5 _ _ HT.out.2⟩
                clear h5 hq5 ht5 q1 zx HT
                have q2 := cell_of_row x5 bx 2 _ _ _ HU.out.2.2
                have zx := lt_of_block HU.out.2.2
                go_wp2_with fail
                go_at_call 12
                refine Calls.mono (addW_wk0 HU.out.1 HL.out.1) ?_
                rintro _ x6 ⟨rfl, wv', ps', h6, hp6⟩
                have HN : Hid (∃ D l wv fv ps qs, Wk w x6 xa xb g D l l wv fv (ps.map Rw.v) (qs.map Rw.v) ps qs ∧ ps.length ≤ 600 ∧ qs.length ≤ 600) := ⟨_, _, _, _, _, _, h6, hp6, HU.out.2.1⟩
                clear h6 hp6 q2 zx HU
                go_wp2
                go_roundw
                case rel => exact ⟨i + 1, by omega, by simp, HN.out⟩
                case measure => simp [intOf]; omega
      · have hd : decide ((i : Int) < (sc.length : Int)) = false := by simp; omega
        go_wp2
        go_loopw [11] (fun vi wr => ∃ j : Nat, j ≤ 2 ∧ vi = .int .i64 (j : Int) ∧ Hid (∃ D l wv fv ps qs, Wk w wr xa xb g D l l wv fv (ps.map Rw.v) (qs.map Rw.v) ps qs ∧ ps.length ≤ 600 ∧ qs.length ≤ 600)) (fun vi _ => 2 - (intOf vi).toNat)
        case atStart => exact ⟨0, by omega, rfl, HD.out⟩
        case round =>
          clear HD hi hlt
          rename_i wq _ hrel
          obtain ⟨j, hj, rfl, HE⟩ := hrel
          by_cases hjt : j < 2
          · have hd2 : decide ((j : Int) < 2) = true := by simp; omega
            have hjI : (j : Int) < 2 := by omega
            have hjJ : (0 : Int) ≤ (j : Int) := by omega
            obtain ⟨D, l, wv, fv, ps, qs, hO, hp6, hq6⟩ := HE.out
            have HV : Hid (Wk w wr xa xb g D l l wv fv (ps.map Rw.v) (qs.map Rw.v) ps qs ∧ ps.length ≤ 600 ∧ qs.length ≤ 600) := ⟨hO, hp6, hq6⟩
            obtain ⟨ca, cb⟩ := hO.ca hjt
            have za := World.block_lt_of_cell? _ _ ca
            clear hO hp6 hq6 cb HE
            go_wp2_with fail
            go_at_call 13
            refine Calls.mono (all_wk HV.out.1 hjt) ?_
            rintro _ x1 ⟨u1, rfl, h1, hu1, hB1⟩
            obtain ⟨a1, n1, rfl⟩ := rowS hu1
            have H1 : Hid (Wk w x1 xa xb g D l l wv fv (ps.map Rw.v) (qs.map Rw.v) (ps ++ [⟨.slice a1 (l j).length n1, (l j).length⟩]) qs ∧ x1.ownsRow 0 57 3 (.slice a1 (l j).length n1) (l j).length (waFlat (l j))) := ⟨h1, row_lower hu1 (Nat.zero_le _)⟩
            clear h1 hu1 hB1 ca za
            obtain ⟨ca, cb⟩ := H1.out.1.ca hjt
            have za := World.block_lt_of_cell? _ _ ca
            clear cb
            go_wp2_with fail
            go_at_call 13
            refine Calls.mono (all_wk H1.out.1 hjt) ?_
            rintro _ x2 ⟨u2, rfl, h2, hu2, hB2⟩
            obtain ⟨a2, n2, rfl⟩ := rowS hu2
            have H2 : Hid (Wk w x2 xa xb g D l l wv fv (ps.map Rw.v) (qs.map Rw.v) (ps ++ [⟨.slice a1 (l j).length n1, (l j).length⟩] ++ [⟨.slice a2 (l j).length n2, (l j).length⟩]) qs ∧ x2.ownsRow 0 57 3 (.slice a1 (l j).length n1) (l j).length (waFlat (l j)) ∧ x2.ownsRow 0 57 3 (.slice a2 (l j).length n2) (l j).length (waFlat (l j))) := ⟨h2, rowK H1.out.2 (Below.kept hB2) (fun k hk => by have := (H1.out.2.lt k hk).2; omega), row_lower hu2 (Nat.zero_le _)⟩
            clear h2 hu2 hB2 ca za H1
            obtain ⟨ca, cb⟩ := H2.out.1.ca hjt
            have zb := World.block_lt_of_cell? _ _ cb
            clear ca
            have HW : Hid (Wats (l j)) := H2.out.1.wA j hjt
            go_wp2_with fail
            go_at_call 14
            refine Calls.mono (rAll_any (H2.out.1.r j hjt) (by have := HW.out.le; omega)) ?_
            rintro _ x3 ⟨u3, rfl, hu3, hB3⟩
            obtain ⟨a3, n3, rfl⟩ := rowS hu3
            have H3 : Hid (Wk w x3 xa xb g D l l wv fv (ps.map Rw.v) (qs.map Rw.v) (ps ++ [⟨.slice a1 (l j).length n1, (l j).length⟩] ++ [⟨.slice a2 (l j).length n2, (l j).length⟩]) qs ∧ x3.ownsRow 0 57 3 (.slice a1 (l j).length n1) (l j).length (waFlat (l j)) ∧ x3.ownsRow 0 57 3 (.slice a2 (l j).length n2) (l j).length (waFlat (l j)) ∧ x3.ownsRow 0 57 3 (.slice a3 (l j).length n3) (l j).length (waFlat (l j))) := ⟨H2.out.1.below hB3, rowK H2.out.2.1 (Below.kept hB3) (fun k hk => by have := (H2.out.2.1.lt k hk).2; omega), rowK H2.out.2.2 (Below.kept hB3) (fun k hk => by have := (H2.out.2.2.lt k hk).2; omega), row_lower hu3 (Nat.zero_le _)⟩
            clear hu3 hB3 cb zb H2
            go_wp2_with fail
            go_at_call 15
            refine Calls.mono (eqWatches_same (SW_owns H3.out.2.1) (SW_owns H3.out.2.2.2) (by have := HW.out.le; omega)) ?_
            rintro _ x4 ⟨rfl, hB4⟩
            have H4 : Hid (Wk w x4 xa xb g D l l wv fv (ps.map Rw.v) (qs.map Rw.v) (ps ++ [⟨.slice a1 (l j).length n1, (l j).length⟩] ++ [⟨.slice a2 (l j).length n2, (l j).length⟩]) qs ∧ x4.ownsRow 0 57 3 (.slice a2 (l j).length n2) (l j).length (waFlat (l j)) ∧ x4.ownsRow 0 57 3 (.slice a3 (l j).length n3) (l j).length (waFlat (l j))) := ⟨H3.out.1.below hB4, rowK H3.out.2.2.1 (Below.kept hB4) (fun k hk => by have := (H3.out.2.2.1.lt k hk).2; omega), rowK H3.out.2.2.2 (Below.kept hB4) (fun k hk => by have := (H3.out.2.2.2.lt k hk).2; omega)⟩
            clear hB4 H3
            go_wp2_with fail
            go_at_call 15
            refine Calls.mono (eqWatches_same (SW_owns H4.out.2.1) (SW_owns H4.out.2.2) (by have := HW.out.le; omega)) ?_
            rintro _ x5 ⟨rfl, hB5⟩
            have H5 : Hid (Wk w x5 xa xb g D l l wv fv (ps.map Rw.v) (qs.map Rw.v) (ps ++ [⟨.slice a1 (l j).length n1, (l j).length⟩] ++ [⟨.slice a2 (l j).length n2, (l j).length⟩]) qs) := H4.out.1.below hB5
            clear hB5 H4
            go_wp2_with fail
            go_at_call 12
            refine Calls.mono (addW_wk H5.out HV.out.2.1) ?_
            rintro _ x6 ⟨rfl, wv1, ps1, h6, hp1⟩
            have H6 : Hid (Wk w x6 xa xb g D l l wv1 fv (ps1.map Rw.v) (qs.map Rw.v) (ps1 ++ [⟨.slice a2 (l j).length n2, (l j).length⟩]) qs ∧ ps1.length ≤ 600) := ⟨h6, hp1⟩
            clear h6 hp1 H5
            go_wp2_with fail
            go_at_call 12
            refine Calls.mono (addW_wk0 H6.out.1 H6.out.2) ?_
            rintro _ x7 ⟨rfl, wv2, ps2, h7, hp2⟩
            have HN : Hid (∃ D l wv fv ps qs, Wk w x7 xa xb g D l l wv fv (ps.map Rw.v) (qs.map Rw.v) ps qs ∧ ps.length ≤ 600 ∧ qs.length ≤ 600) := ⟨_, _, _, _, _, _, h7, hp2, HV.out.2.2⟩
            clear h7 hp2 H6 HV
            go_wp2
            go_roundw
            case rel => exact ⟨j + 1, by omega, by simp, HN.out⟩
            case measure => simp [intOf]; omega
          · have hd2 : decide ((j : Int) < 2) = false := by simp; omega
            obtain ⟨D, l, wv, fv, ps, qs, hO, hp6, hq6⟩ := HE.out
            have HV : Hid (Wk w wr xa xb g D l l wv fv (ps.map Rw.v) (qs.map Rw.v) ps qs ∧ ps.length ≤ 600 ∧ qs.length ≤ 600) := ⟨hO, hp6, hq6⟩
            clear hO hp6 hq6 HE
            go_wp2_with fail
            go_at_call 16
            refine Calls.mono (apart_wk HV.out.1 HV.out.2.1 HV.out.2.2) ?_
            rintro _ x1 ⟨rfl, h1⟩
            have H1 : Hid (Wz w x1 xa xb D l l) := h1
            clear h1 HV
            have ca := cell_of_row _ xa 0 _ _ _ H1.out.ba
            have za := World.block_lt_of_cell? _ _ ca
            go_wp2_with fail
            go_at_call 13
            refine Calls.mono (all_any (H1.out.a 0 (by omega)) (by have := (H1.out.wA 0 (by omega)).le; omega)) ?_
            rintro _ x2 ⟨u2, rfl, hu2, hB2⟩
            obtain ⟨a2, n2, rfl⟩ := rowS hu2
            have H2 : Hid (Wz w x2 xa xb D l l ∧ x2.ownsRow 0 57 3 (.slice a2 (l 0).length n2) (l 0).length (waFlat (l 0))) := ⟨H1.out.below hB2, row_lower hu2 (Nat.zero_le _)⟩
            clear hu2 hB2 H1 ca za
            have ca := cell_of_row _ xa 1 _ _ _ H2.out.1.ba
            have za := World.block_lt_of_cell? _ _ ca
            go_wp2_with fail
            go_at_call 13
            refine Calls.mono (all_any (H2.out.1.a 1 (by omega)) (by have := (H2.out.1.wA 1 (by omega)).le; omega)) ?_
            rintro _ x3 ⟨u3, rfl, hu3, hB3⟩
            obtain ⟨a3, n3, rfl⟩ := rowS hu3
            have H3 : Hid (Wz w x3 xa xb D l l ∧ x3.ownsRow 0 57 3 (.slice a2 (l 0).length n2) (l 0).length (waFlat (l 0)) ∧ x3.ownsRow 0 57 3 (.slice a3 (l 1).length n3) (l 1).length (waFlat (l 1))) := ⟨H2.out.1.below hB3, rowK H2.out.2 (Below.kept hB3) (fun k hk => by have := (H2.out.2.lt k hk).2; omega), row_lower hu3 (Nat.zero_le _)⟩
            clear hu3 hB3 H2 ca za
            have cb := cell_of_row _ xb 0 _ _ _ H3.out.1.bb
            have zb := World.block_lt_of_cell? _ _ cb
            go_wp2_with fail
            go_at_call 14
            refine Calls.mono (rAll_any (H3.out.1.r 0 (by omega)) (by have := (H3.out.1.wA 0 (by omega)).le; omega)) ?_
            rintro _ x4 ⟨u4, rfl, hu4, hB4⟩
            obtain ⟨a4, n4, rfl⟩ := rowS hu4
            have H4 : Hid (Wz w x4 xa xb D l l ∧ x4.ownsRow 0 57 3 (.slice a2 (l 0).length n2) (l 0).length (waFlat (l 0)) ∧ x4.ownsRow 0 57 3 (.slice a3 (l 1).length n3) (l 1).length (waFlat (l 1)) ∧ x4.ownsRow 0 57 3 (.slice a4 (l 0).length n4) (l 0).length (waFlat (l 0))) := ⟨H3.out.1.below hB4, rowK H3.out.2.1 (Below.kept hB4) (fun k hk => by have := (H3.out.2.1.lt k hk).2; omega), rowK H3.out.2.2 (Below.kept hB4) (fun k hk => by have := (H3.out.2.2.lt k hk).2; omega), row_lower hu4 (Nat.zero_le _)⟩
            clear hu4 hB4 H3 cb zb
            go_wp2_with fail
            go_at_call 15
            refine Calls.mono (eqWatches_same (SW_owns H4.out.2.1) (SW_owns H4.out.2.2.2) (by have := (H4.out.1.wA 0 (by omega)).le; omega)) ?_
            rintro _ x5 ⟨rfl, hB5⟩
            have H5 : Hid (Wz w x5 xa xb D l l ∧ x5.ownsRow 0 57 3 (.slice a3 (l 1).length n3) (l 1).length (waFlat (l 1))) := ⟨H4.out.1.below hB5, rowK H4.out.2.2.1 (Below.kept hB5) (fun k hk => by have := (H4.out.2.2.1.lt k hk).2; omega)⟩
            clear hB5 H4
            have cb := cell_of_row _ xb 1 _ _ _ H5.out.1.bb
            have zb := World.block_lt_of_cell? _ _ cb
            go_wp2_with fail
            go_at_call 14
            refine Calls.mono (rAll_any (H5.out.1.r 1 (by omega)) (by have := (H5.out.1.wA 1 (by omega)).le; omega)) ?_
            rintro _ x6 ⟨u6, rfl, hu6, hB6⟩
            obtain ⟨a6, n6, rfl⟩ := rowS hu6
            have H6 : Hid (Wz w x6 xa xb D l l ∧ x6.ownsRow 0 57 3 (.slice a3 (l 1).length n3) (l 1).length (waFlat (l 1)) ∧ x6.ownsRow 0 57 3 (.slice a6 (l 1).length n6) (l 1).length (waFlat (l 1))) := ⟨H5.out.1.below hB6, rowK H5.out.2 (Below.kept hB6) (fun k hk => by have := (H5.out.2.lt k hk).2; omega), row_lower hu6 (Nat.zero_le _)⟩
            clear hu6 hB6 H5 cb zb
            go_wp2_with fail
            go_at_call 15
            refine Calls.mono (eqWatches_same (SW_owns H6.out.2.1) (SW_owns H6.out.2.2) (by have := (H6.out.1.wA 1 (by omega)).le; omega)) ?_
            rintro _ x7 ⟨rfl, hB7⟩
            have HZ : Hid (Below w.heap.size w x7) := H6.out.1.bel.trans (hB7.mono H6.out.1.bel.size)
            clear hB7 H6
            go_wp2
            all_goals (go_ret; exact ⟨rfl, HZ.out⟩)
  · go_wp2
    all_goals (go_ret; exact ⟨rfl, HB1.out⟩)

end Go.Proofs.YtkcapiblicfboaaGreatDoor
