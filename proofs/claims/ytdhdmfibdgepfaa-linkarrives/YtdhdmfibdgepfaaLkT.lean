/- LinkArrives' walk. -/
import Derived.Test.YtdhdmfibdgepfaaLkS
namespace Go.Proofs.Ytdhdmfibdgepfaa
open Go.RowKit
set_option maxRecDepth 8000
set_option linter.unusedSimpArgs false
set_option linter.unusedVariables false

theorem row_atL {w : World} {base : Nat} {T : TypeId} {z n c : Nat} {a : Option Addr} {xs : List Value} (h : w.ownsRow base T z (.slice a n c) n xs) {j : Nat} {u : Value} (hj : xs[j]? = some u) : ∃ g, a = some ⟨g, 0, none⟩ ∧ base ≤ g ∧ g < w.heap.size ∧ w.cell? ⟨g, j, none⟩ = some u := by
  have hjl : j < xs.length := (List.getElem?_eq_some_iff.1 hj).1
  obtain ⟨h1, ⟨e, h0⟩ | ⟨g, cap, cur, e, a2, a3, a4, a5, a6, a7⟩⟩ := h
  · rw [h1, h0] at hjl; simp at hjl
  · simp only [Value.slice.injEq] at e
    refine ⟨g, e.1, a2, lt_of_block a3, ?_⟩
    rw [cell_of_row w g _ _ _ _ a3, ← Array.getElem?_toList]
    rw [← a7, List.getElem?_take] at hj
    split at hj
    · exact hj
    · cases hj

/-- What the search reads: the calls sent, the message taken. -/
structure InL (W : World) (sg k : Nat) (o : OpT) (mb : Nat) (x : MsD) : Prop where
  c2 : W.cell? ⟨sg, k * 8 + 2, none⟩ = some (.int .i8 o.f)
  c3 : W.cell? ⟨sg, k * 8 + 3, none⟩ = some (.int .i8 o.t)
  c4 : W.cell? ⟨sg, k * 8 + 4, none⟩ = some (.slice o.ba o.bs.length o.bc)
  m0 : W.cell? ⟨mb, 0, none⟩ = some (.int .i8 x.f)
  m1 : W.cell? ⟨mb, 1, none⟩ = some (.int .i8 x.t)
  m2 : W.cell? ⟨mb, 2, none⟩ = some x.v
  m3 : W.cell? ⟨mb, 3, none⟩ = some (.bool x.sp)
  z1 : sg < W.heap.size
  z2 : mb < W.heap.size
theorem InL.of {w W : World} {b u k mb sg : Nat} {n : Int} {c : Nat} {sl sk : List OpT} {o : OpT} {x : MsD} (h : ArI w W b n (.slice (some ⟨sg, 0, none⟩) sl.length c) sl sk u) (ho : sl[k]? = some o) (hm : W.heap[mb]? = some (.cells x.cs.toArray 38 (0, 0))) : InL W sg k o mb x := by
  obtain ⟨e2, e3, e4⟩ := opF_at sl k o ho
  obtain ⟨g, h1, h2, h3, h4⟩ := row_atL h.sent e2
  obtain ⟨g', h1', _, _, h5⟩ := row_atL h.sent e3
  obtain ⟨g'', h1'', _, _, h6⟩ := row_atL h.sent e4
  simp only [Option.some.injEq, Addr.mk.injEq, and_true] at h1 h1' h1''
  subst h1 h1' h1''
  exact ⟨h4, h5, h6, by rw [cell_of_row _ _ _ _ _ _ hm]; rfl, by rw [cell_of_row _ _ _ _ _ _ hm]; rfl, by rw [cell_of_row _ _ _ _ _ _ hm]; rfl, by rw [cell_of_row _ _ _ _ _ _ hm]; rfl, h3, lt_of_block hm⟩

set_option maxHeartbeats 16000000 in
theorem arrives_walk (sz : Int) (v : Value) (l : List OpT) (w : World) (hs : SeesTs w v l) (hlen : l.length ≤ 140737488355328) (_ : -9223372036854775808 ≤ sz ∧ sz ≤ 9223372036854775807) :
    Calls Try.prog 3 #[.int .i64 sz, v] w fun e w' => e = .returned (.bool true) ∧ Below w.heap.size w w' := by
  have HS : Hid (∀ W, Below w.heap.size w W → SeesTs W v l) := fun W hW => hs.below hW
  obtain ⟨ao, cap, rfl, hcap, hg, hc⟩ := hs
  have HG : Hid (∀ o ∈ l, GoodT w o) := hg
  have HC0 : Hid (l ≠ [] → ∃ b off, ao = some ⟨b, off, none⟩ ∧ ∀ i o, l[i]? = some o → ∀ j u, o.cells[j]? = some u → w.cell? ⟨b, off + i * 8 + j, none⟩ = some u) := hc
  clear hg hc
  go_enter Try.func3, Try.ntmps3
  go_wp2_with fail
  refine Calls.mono (works22 w) ?_
  rintro _ w1 ⟨rfl, b1⟩
  have H1 : Hid (Below w.heap.size w w1) := b1
  clear b1
  go_wp2_with fail
  refine Calls.mono (long22 (HS.out w1 H1.out) hlen) ?_
  rintro _ w2 ⟨bl, rfl, hbl, b2⟩
  have H2 : Hid (Below w.heap.size w w2) := H1.out.trans (b2.mono H1.out.size)
  clear b2 H1 HS
  cases bl with
  | true =>
    clear hbl
    go_wp2_with fail
    all_goals (go_ret; exact ⟨rfl, H2.out⟩)
  | false =>
    have hll : l.length ≤ 67108864 := Nat.le_trans (totT_len l) (hbl rfl)
    have HLO : Hid (∀ o ∈ l, o.bs.length ≤ 67108864) := fun o ho => Nat.le_trans (totT_mem ho) (hbl rfl)
    clear hbl
    by_cases hbad : sz < 1 ∨ 7 < sz
    · have HN : Hid (Calls Try.prog 8 #[.int .i64 sz] w2 fun e w' => e = .returned (.tuple #[.pointer none, .int .i64 1]) ∧ w' = w2) := new_bad w2 sz hbad
      by_cases h1 : sz < 1
      · have d1 : decide (sz < 1) = true := decide_eq_true h1
        go_wp2_with fail
        refine HN.out.mono ?_
        rintro _ _ ⟨rfl, rfl⟩
        go_wp2_with fail
        all_goals (go_ret; exact ⟨rfl, H2.out⟩)
      · have d1 : decide (sz < 1) = false := decide_eq_false h1
        have d2 : decide (7 < sz) = true := decide_eq_true (by omega)
        go_wp2_with fail
        refine HN.out.mono ?_
        rintro _ _ ⟨rfl, rfl⟩
        go_wp2_with fail
        all_goals (go_ret; exact ⟨rfl, H2.out⟩)
    · have HN : Hid _ := new_good w2 sz (by omega) (by omega)
      clear hbad
      go_wp2_with fail
      refine Calls.mono HN.out ?_
      rintro _ w3 ⟨rfl, h3, b3⟩
      have HA : Hid (ArI w w3 w2.heap.size sz (.slice none 0 0) [] [] 0) := ⟨H2.out.trans (b3.mono H2.out.size), ⟨_, [], h3, rfl, fun m hm => by simp at hm, fun k hk => by
        have := H2.out.size
        rcases hk with rfl | hk | ⟨m, hm, _⟩
        · exact this
        · simp [Value.ownBlock] at hk
        · simp at hm⟩, World.ownsRow_nil _ _ _ _, fun o ho => by simp at ho⟩
      clear h3 b3 HN H2
      generalize w2.heap.size = b at *
      go_wp2_with fail
      go_loopw [8, 9, 10] (fun vs vu vi wr => ∃ (i u : Nat) (sl : List OpT) (sa : Option Addr) (sc : Nat), i ≤ l.length ∧ vi = .int .i64 (i : Int) ∧ vu = .int .i64 (u : Int) ∧ u ≤ i ∧ sl.length ≤ i ∧ vs = .slice sa sl.length sc ∧ Hid (ArI w wr b sz (.slice sa sl.length sc) sl sl u)) (fun _ _ vi _ => l.length - (intOf vi).toNat)
      case atStart => exact ⟨0, 0, [], none, 0, by omega, rfl, rfl, by omega, by simp, rfl, HA.out⟩
      case round =>
        clear HA
        obtain ⟨i, u, sl, sa, sc, hi, rfl, rfl, hui, hsi, rfl, HJ⟩ := hrel
        by_cases hlt : i < l.length
        · have hd : decide ((i : Int) < (l.length : Int)) = true := by simp; omega
          obtain ⟨o, ho⟩ : ∃ o, l[i]? = some o := ⟨_, List.getElem?_eq_getElem hlt⟩
          have hom := List.mem_of_getElem? ho
          have HO : Hid (GoodT w o) := HG.out o hom
          have hob : o.bs.length ≤ 67108864 := HLO.out o hom
          obtain ⟨sb, soff, rfl, hcx⟩ := HC0.out (fun e => by rw [e] at hlt; simp at hlt)
          have hkc : ∀ j u, o.cells[j]? = some u → wr.cell? ⟨sb, soff + i * 8 + j, none⟩ = some u := fun j u hj => (Below.kept HJ.out.bel).cell (hcx i o ho j u hj) (by have := World.block_lt_of_cell? w _ (hcx i o ho j u hj); simp at this; show ¬ w.heap.size ≤ sb; omega)
          have q0 : wr.cell? ⟨sb, soff + i * 8, none⟩ = some (.int .i64 o.kd) := hkc 0 _ rfl
          have q1 := hkc 1 _ rfl
          have q2 := hkc 2 _ rfl
          have q3 := hkc 3 _ rfl
          have q4 := hkc 4 _ rfl
          have q5 := hkc 5 _ rfl
          have q6 := hkc 6 _ rfl
          have q7 := hkc 7 _ rfl
          have hz0 : sb < wr.heap.size := World.block_lt_of_cell? wr _ q0
          obtain ⟨wb, hwb⟩ : ∃ wb, wb = wr.alloc (.cells o.cells.toArray 32) := ⟨_, rfl⟩
          have HB : Hid (BoxO wb wr.heap.size o ∧ ArI w wb b sz (.slice sa sl.length sc) sl sl u) := by
            rw [hwb]; exact ⟨heap_alloc_new wr _, HJ.out.below (oneL wr _)⟩
          clear hkc hcx ho hom HJ
          go_upto_region 13 with fail
          rw [← hwb]
          clear hwb q0 q1 q2 q3 q4 q5 q6 q7 hz0
          generalize wr.heap.size = bx at *
          obtain ⟨q0, q1, q2, q3, q4, q5, q6, q7, hz0⟩ := HB.out.1.at'
          obtain ⟨nv, ms, hn1, hn2, hn3, hn4⟩ := HB.out.2.net
          have HNT : Hid (Nt wb b sz nv ms ∧ ms.length = u ∧ (∀ m ∈ ms, ∃ o ∈ sl, kn m o = true) ∧ ∀ k, Fn b nv ms k → w.heap.size ≤ k) := ⟨hn1, hn2, hn3, hn4⟩
          have hml : ms.length ≤ 100000000 := by omega
          clear hn1 hn2 hn3 hn4
          by_cases e1 : o.kd = 1
          · have d1 : (o.kd == 1) = true := by simpa using e1
            clear e1
            go_upto_region 15 with fail
            have HOB : Hid ((GoodT wb.drew o ∧ ArI w wb.drew b sz (.slice sa sl.length sc) sl sl u) ∧ Nt wb.drew b sz nv ms) := ⟨⟨HO.out.below (below_drewN HB.out.2.bel 1), HB.out.2.below (below_drewN (Below.refl _ _) 1)⟩, HNT.out.1.drewN 1⟩
            have S0 : BoxO wb.drew bx o := HB.out.1
            clear q0 q1 q2 q3 q4 q5 q6 q7 hz0
            cases hk : okS sz o.f o.t o.bs.length with
            | false =>
              refine wp_region_held_drew (S := (fun W => BoxO W bx o)) (by kernel_rfl) ?_ (fun hHeld => ?_)
              · exact S0
              refine wpAnyH_take (i := 0) (oi := { dst := some 58, op := Op.move (Operand.tmp 6), type := 25, pos := "law.go:163", after := #[], guard := none }) (v := ?_) rfl (by kernel_rfl) (by kernel_rfl) (by kernel_rfl) (fun _ _ _ h => h) (Or.inl ⟨by rfl, ?_⟩) (by assumption) ?_
              rotate_left
              · (intro w hSw; (try dsimp only at hSw); obtain ⟨s0, s1, s2, s3, s4, s5, s6, s7, s8⟩ := BoxO.at' hSw; go_simp) <;> with_reducible rfl
              try simp only [Act.put, List.setIfInBounds_toArray, List.set_cons_zero, List.set_cons_succ]
              refine wpAnyH_take (i := 1) (oi := { dst := some 59, op := Op.fieldAddr 32 (Operand.tmp 11) 2, type := 0, pos := "law.go:163", after := #[], guard := none }) (v := ?_) rfl (by kernel_rfl) (by kernel_rfl) (by kernel_rfl) (fun _ _ _ h => h) (Or.inl ⟨by rfl, ?_⟩) (by assumption) ?_
              rotate_left
              · (intro w hSw; (try dsimp only at hSw); obtain ⟨s0, s1, s2, s3, s4, s5, s6, s7, s8⟩ := BoxO.at' hSw; go_simp) <;> with_reducible rfl
              try simp only [Act.put, List.setIfInBounds_toArray, List.set_cons_zero, List.set_cons_succ]
              refine wpAnyH_take (i := 2) (oi := { dst := some 60, op := Op.load 29 (Operand.tmp 59), type := 29, pos := "law.go:163", after := #[{ on := 1, ground := Ground.data }], guard := none }) (v := ?_) rfl (by kernel_rfl) (by kernel_rfl) (by kernel_rfl) (fun _ _ _ h => h) (Or.inl ⟨by rfl, ?_⟩) (by assumption) ?_
              rotate_left
              · (intro w hSw; (try dsimp only at hSw); obtain ⟨s0, s1, s2, s3, s4, s5, s6, s7, s8⟩ := BoxO.at' hSw; go_simp) <;> with_reducible rfl
              try simp only [Act.put, List.setIfInBounds_toArray, List.set_cons_zero, List.set_cons_succ]
              refine wpAnyH_take (i := 3) (oi := { dst := some 61, op := Op.fieldAddr 32 (Operand.tmp 11) 3, type := 0, pos := "law.go:163", after := #[], guard := none }) (v := ?_) rfl (by kernel_rfl) (by kernel_rfl) (by kernel_rfl) (fun _ _ _ h => h) (Or.inl ⟨by rfl, ?_⟩) (by assumption) ?_
              rotate_left
              · (intro w hSw; (try dsimp only at hSw); obtain ⟨s0, s1, s2, s3, s4, s5, s6, s7, s8⟩ := BoxO.at' hSw; go_simp) <;> with_reducible rfl
              try simp only [Act.put, List.setIfInBounds_toArray, List.set_cons_zero, List.set_cons_succ]
              refine wpAnyH_take (i := 4) (oi := { dst := some 62, op := Op.load 29 (Operand.tmp 61), type := 29, pos := "law.go:163", after := #[{ on := 3, ground := Ground.data }], guard := none }) (v := ?_) rfl (by kernel_rfl) (by kernel_rfl) (by kernel_rfl) (fun _ _ _ h => h) (Or.inl ⟨by rfl, ?_⟩) (by assumption) ?_
              rotate_left
              · (intro w hSw; (try dsimp only at hSw); obtain ⟨s0, s1, s2, s3, s4, s5, s6, s7, s8⟩ := BoxO.at' hSw; go_simp) <;> with_reducible rfl
              try simp only [Act.put, List.setIfInBounds_toArray, List.set_cons_zero, List.set_cons_succ]
              refine wpAnyH_take (i := 5) (oi := { dst := some 63, op := Op.fieldAddr 32 (Operand.tmp 11) 4, type := 0, pos := "law.go:163", after := #[], guard := none }) (v := ?_) rfl (by kernel_rfl) (by kernel_rfl) (by kernel_rfl) (fun _ _ _ h => h) (Or.inl ⟨by rfl, ?_⟩) (by assumption) ?_
              rotate_left
              · (intro w hSw; (try dsimp only at hSw); obtain ⟨s0, s1, s2, s3, s4, s5, s6, s7, s8⟩ := BoxO.at' hSw; go_simp) <;> with_reducible rfl
              try simp only [Act.put, List.setIfInBounds_toArray, List.set_cons_zero, List.set_cons_succ]
              refine wpAnyH_take (i := 6) (oi := { dst := some 64, op := Op.load 30 (Operand.tmp 63), type := 30, pos := "law.go:163", after := #[{ on := 5, ground := Ground.data }], guard := none }) (v := ?_) rfl (by kernel_rfl) (by kernel_rfl) (by kernel_rfl) (fun _ _ _ h => h) (Or.inl ⟨by rfl, ?_⟩) (by assumption) ?_
              rotate_left
              · (intro w hSw; (try dsimp only at hSw); obtain ⟨s0, s1, s2, s3, s4, s5, s6, s7, s8⟩ := BoxO.at' hSw; go_simp) <;> with_reducible rfl
              try simp only [Act.put, List.setIfInBounds_toArray, List.set_cons_zero, List.set_cons_succ]
              refine wpAnyH_ready (rs := [7]) (by kernel_rfl) (by simp) ?_
              refine AllReadyH.cons (o := { dst := some 65, op := Op.call { callee := Callee.value (Operand.func 10), args := #[Operand.tmp 64], argTypes := #[30] }, type := 30, pos := "law.go:163", after := #[{ on := 6, ground := Ground.data }], guard := none }) rfl (fun K hK => ?_) AllReadyH.nil
              go_simp
              refine Calls.mono (copyBytes_any _ o.bs _ HOB.out.1.1.se (by omega)) ?_
              rintro _ w4 ⟨v4, rfl, ho4, hb4⟩
              obtain ⟨a4, c4, rfl⟩ := rowSl ho4
              have H4 : Hid (ArI w w4 b sz (.slice sa sl.length sc) sl sl u ∧ Nt w4 b sz nv ms ∧ Owns w4 0 (.slice a4 o.bs.length c4) o.bs) := ⟨HOB.out.1.2.below hb4, HOB.out.2.below hb4, row_lowerl ho4 (Nat.zero_le _)⟩
              have S4 : BoxO w4 bx o := boxL hHeld hb4
              clear ho4 hb4 hHeld
              refine hK.out _ _ S4 (fun hHeld => ?_)
              clear hK K
              refine wpAnyH_ready (rs := [8]) (by kernel_rfl) (by simp) ?_
              refine AllReadyH.cons (o := { dst := some 66, op := Op.call { callee := Callee.value (Operand.func 9), args := #[Operand.tmp 58, Operand.tmp 60, Operand.tmp 62, Operand.tmp 65], argTypes := #[25, 29, 29, 30] }, type := 26, pos := "law.go:163", after := #[{ on := 0, ground := Ground.data }, { on := 2, ground := Ground.data }, { on := 4, ground := Ground.data }, { on := 7, ground := Ground.data }, { on := 7, ground := Ground.chain }], guard := none }) rfl (fun K hK => ?_) AllReadyH.nil
              go_simp
              refine Calls.mono (send_no H4.out.2.1 o.f o.t HO.out.f0 HO.out.f1 HO.out.t0 HO.out.t1 a4 o.bs.length c4 hk) ?_
              rintro _ w5 ⟨rfl, rfl⟩
              refine hK.out _ _ hHeld (fun hHeld => ?_)
              clear hK K
              refine wpAnyH_take (i := 9) (oi := { dst := some 67, op := Op.binOp BinOp.eql 26 (Operand.tmp 66) (Operand.const (Value.int IntKind.i64 0)) 26, type := 4, pos := "law.go:163", after := #[{ on := 8, ground := Ground.data }], guard := none }) (v := ?_) rfl (by kernel_rfl) (by kernel_rfl) (by kernel_rfl) (fun _ _ _ h => h) (Or.inl ⟨by rfl, ?_⟩) (by assumption) ?_
              rotate_left
              · (intro w hSw; (try dsimp only at hSw); obtain ⟨s0, s1, s2, s3, s4, s5, s6, s7, s8⟩ := BoxO.at' hSw; go_simp) <;> with_reducible rfl
              try simp only [Act.put, List.setIfInBounds_toArray, List.set_cons_zero, List.set_cons_succ]
              refine wpAnyH_done (by kernel_rfl) ?_ _
              have HJ : Hid (ArI w w5 b sz (.slice sa sl.length sc) sl sl u) := H4.out.1
              clear hHeld H4
              obtain ⟨nv2, ms2, hn1, hn2, hn3, hn4⟩ := HJ.out.net
              have HLN : Hid (Calls Try.prog 15 #[.pointer (some ⟨b, 0, none⟩)] w5 fun e w' => e = .returned (.int .i64 (u : Int)) ∧ w' = w5) := by
                have := len_anyL hn1
                rw [hn2] at this
                exact this
              clear hn1 hn2 hn3 hn4
              go_wp2_with fail
              refine HLN.out.mono ?_
              rintro _ _ ⟨rfl, rfl⟩
              go_wp2_with fail
              go_roundw
              case rel => exact ⟨i + 1, u, sl, sa, sc, by omega, by simp, by simp, by omega, by first | omega | (simp; omega), by first | rfl | simp, HJ.out⟩
              case measure => simp [intOf]; omega
            | true =>
              refine wp_region_held_drew (S := (fun W => BoxO W bx o)) (by kernel_rfl) ?_ (fun hHeld => ?_)
              · exact S0
              refine wpAnyH_take (i := 0) (oi := { dst := some 58, op := Op.move (Operand.tmp 6), type := 25, pos := "law.go:163", after := #[], guard := none }) (v := ?_) rfl (by kernel_rfl) (by kernel_rfl) (by kernel_rfl) (fun _ _ _ h => h) (Or.inl ⟨by rfl, ?_⟩) (by assumption) ?_
              rotate_left
              · (intro w hSw; (try dsimp only at hSw); obtain ⟨s0, s1, s2, s3, s4, s5, s6, s7, s8⟩ := BoxO.at' hSw; go_simp) <;> with_reducible rfl
              try simp only [Act.put, List.setIfInBounds_toArray, List.set_cons_zero, List.set_cons_succ]
              refine wpAnyH_take (i := 1) (oi := { dst := some 59, op := Op.fieldAddr 32 (Operand.tmp 11) 2, type := 0, pos := "law.go:163", after := #[], guard := none }) (v := ?_) rfl (by kernel_rfl) (by kernel_rfl) (by kernel_rfl) (fun _ _ _ h => h) (Or.inl ⟨by rfl, ?_⟩) (by assumption) ?_
              rotate_left
              · (intro w hSw; (try dsimp only at hSw); obtain ⟨s0, s1, s2, s3, s4, s5, s6, s7, s8⟩ := BoxO.at' hSw; go_simp) <;> with_reducible rfl
              try simp only [Act.put, List.setIfInBounds_toArray, List.set_cons_zero, List.set_cons_succ]
              refine wpAnyH_take (i := 2) (oi := { dst := some 60, op := Op.load 29 (Operand.tmp 59), type := 29, pos := "law.go:163", after := #[{ on := 1, ground := Ground.data }], guard := none }) (v := ?_) rfl (by kernel_rfl) (by kernel_rfl) (by kernel_rfl) (fun _ _ _ h => h) (Or.inl ⟨by rfl, ?_⟩) (by assumption) ?_
              rotate_left
              · (intro w hSw; (try dsimp only at hSw); obtain ⟨s0, s1, s2, s3, s4, s5, s6, s7, s8⟩ := BoxO.at' hSw; go_simp) <;> with_reducible rfl
              try simp only [Act.put, List.setIfInBounds_toArray, List.set_cons_zero, List.set_cons_succ]
              refine wpAnyH_take (i := 3) (oi := { dst := some 61, op := Op.fieldAddr 32 (Operand.tmp 11) 3, type := 0, pos := "law.go:163", after := #[], guard := none }) (v := ?_) rfl (by kernel_rfl) (by kernel_rfl) (by kernel_rfl) (fun _ _ _ h => h) (Or.inl ⟨by rfl, ?_⟩) (by assumption) ?_
              rotate_left
              · (intro w hSw; (try dsimp only at hSw); obtain ⟨s0, s1, s2, s3, s4, s5, s6, s7, s8⟩ := BoxO.at' hSw; go_simp) <;> with_reducible rfl
              try simp only [Act.put, List.setIfInBounds_toArray, List.set_cons_zero, List.set_cons_succ]
              refine wpAnyH_take (i := 4) (oi := { dst := some 62, op := Op.load 29 (Operand.tmp 61), type := 29, pos := "law.go:163", after := #[{ on := 3, ground := Ground.data }], guard := none }) (v := ?_) rfl (by kernel_rfl) (by kernel_rfl) (by kernel_rfl) (fun _ _ _ h => h) (Or.inl ⟨by rfl, ?_⟩) (by assumption) ?_
              rotate_left
              · (intro w hSw; (try dsimp only at hSw); obtain ⟨s0, s1, s2, s3, s4, s5, s6, s7, s8⟩ := BoxO.at' hSw; go_simp) <;> with_reducible rfl
              try simp only [Act.put, List.setIfInBounds_toArray, List.set_cons_zero, List.set_cons_succ]
              refine wpAnyH_take (i := 5) (oi := { dst := some 63, op := Op.fieldAddr 32 (Operand.tmp 11) 4, type := 0, pos := "law.go:163", after := #[], guard := none }) (v := ?_) rfl (by kernel_rfl) (by kernel_rfl) (by kernel_rfl) (fun _ _ _ h => h) (Or.inl ⟨by rfl, ?_⟩) (by assumption) ?_
              rotate_left
              · (intro w hSw; (try dsimp only at hSw); obtain ⟨s0, s1, s2, s3, s4, s5, s6, s7, s8⟩ := BoxO.at' hSw; go_simp) <;> with_reducible rfl
              try simp only [Act.put, List.setIfInBounds_toArray, List.set_cons_zero, List.set_cons_succ]
              refine wpAnyH_take (i := 6) (oi := { dst := some 64, op := Op.load 30 (Operand.tmp 63), type := 30, pos := "law.go:163", after := #[{ on := 5, ground := Ground.data }], guard := none }) (v := ?_) rfl (by kernel_rfl) (by kernel_rfl) (by kernel_rfl) (fun _ _ _ h => h) (Or.inl ⟨by rfl, ?_⟩) (by assumption) ?_
              rotate_left
              · (intro w hSw; (try dsimp only at hSw); obtain ⟨s0, s1, s2, s3, s4, s5, s6, s7, s8⟩ := BoxO.at' hSw; go_simp) <;> with_reducible rfl
              try simp only [Act.put, List.setIfInBounds_toArray, List.set_cons_zero, List.set_cons_succ]
              refine wpAnyH_ready (rs := [7]) (by kernel_rfl) (by simp) ?_
              refine AllReadyH.cons (o := { dst := some 65, op := Op.call { callee := Callee.value (Operand.func 10), args := #[Operand.tmp 64], argTypes := #[30] }, type := 30, pos := "law.go:163", after := #[{ on := 6, ground := Ground.data }], guard := none }) rfl (fun K hK => ?_) AllReadyH.nil
              go_simp
              refine Calls.mono (copyBytes_any _ o.bs _ HOB.out.1.1.se (by omega)) ?_
              rintro _ w4 ⟨v4, rfl, ho4, hb4⟩
              obtain ⟨a4, c4, rfl⟩ := rowSl ho4
              have H4 : Hid (ArI w w4 b sz (.slice sa sl.length sc) sl sl u ∧ Nt w4 b sz nv ms ∧ Owns w4 0 (.slice a4 o.bs.length c4) o.bs) := ⟨HOB.out.1.2.below hb4, HOB.out.2.below hb4, row_lowerl ho4 (Nat.zero_le _)⟩
              have S4 : BoxO w4 bx o := boxL hHeld hb4
              clear ho4 hb4 hHeld
              refine hK.out _ _ S4 (fun hHeld => ?_)
              clear hK K
              refine wpAnyH_ready (rs := [8]) (by kernel_rfl) (by simp) ?_
              refine AllReadyH.cons (o := { dst := some 66, op := Op.call { callee := Callee.value (Operand.func 9), args := #[Operand.tmp 58, Operand.tmp 60, Operand.tmp 62, Operand.tmp 65], argTypes := #[25, 29, 29, 30] }, type := 26, pos := "law.go:163", after := #[{ on := 0, ground := Ground.data }, { on := 2, ground := Ground.data }, { on := 4, ground := Ground.data }, { on := 7, ground := Ground.data }, { on := 7, ground := Ground.chain }], guard := none }) rfl (fun K hK => ?_) AllReadyH.nil
              go_simp
              obtain ⟨g4, rfl⟩ : ∃ g, a4 = some ⟨g, 0, none⟩ := by
                have hl1 : 1 ≤ o.bs.length := by
                  have := hk
                  simp only [okS, Bool.and_eq_true, decide_eq_true_eq] at this
                  exact this.1.2
                obtain ⟨_, ⟨e, h0⟩ | ⟨g, c, cur, e, _⟩⟩ := H4.out.2.2
                · omega
                · simp only [Value.slice.injEq] at e; exact ⟨g, e.1⟩
              refine Calls.mono (send_yes H4.out.2.1 o.f o.t HO.out.f0 HO.out.f1 HO.out.t0 HO.out.t1 g4 0 c4 o.bs (Sees.own H4.out.2.2) HO.out.by' hml hk) ?_
              rintro _ w5 ⟨rfl, nv', R, g1, g2, g3, g5⟩
              have H5 : Hid (ArI w w5 b sz (.slice sa sl.length sc) sl (sl ++ [o]) (u + 1)) := H4.out.1.send H4.out.2.1 HNT.out.2.1 HNT.out.2.2.1 HNT.out.2.2.2 HO.out g1 g2 g3 g5
              have S5 : BoxO w5 bx o := g2.heap hHeld (fun e => box_neL hHeld H4.out.2.1 bx (e.elim .inl (fun e => .inr (.inl e))) rfl)
              clear g1 g2 g3 g5 hHeld
              refine hK.out _ _ S5 (fun hHeld => ?_)
              clear hK K
              refine wpAnyH_take (i := 9) (oi := { dst := some 67, op := Op.binOp BinOp.eql 26 (Operand.tmp 66) (Operand.const (Value.int IntKind.i64 0)) 26, type := 4, pos := "law.go:163", after := #[{ on := 8, ground := Ground.data }], guard := none }) (v := ?_) rfl (by kernel_rfl) (by kernel_rfl) (by kernel_rfl) (fun _ _ _ h => h) (Or.inl ⟨by rfl, ?_⟩) (by assumption) ?_
              rotate_left
              · (intro w hSw; (try dsimp only at hSw); obtain ⟨s0, s1, s2, s3, s4, s5, s6, s7, s8⟩ := BoxO.at' hSw; go_simp) <;> with_reducible rfl
              try simp only [Act.put, List.setIfInBounds_toArray, List.set_cons_zero, List.set_cons_succ]
              refine wpAnyH_done (by kernel_rfl) ?_ _
              obtain ⟨q0, q1, q2, q3, q4, q5, q6, q7, hz0⟩ := BoxO.at' hHeld
              clear hHeld
              have HJ6 := H5.out.below (oneL w5 (.cells o.cells.toArray 32))
              obtain ⟨sv7, w7, hr, ho7, hk7⟩ := app_op (x := o) HJ6.sent (heap_alloc_new w5 (.cells o.cells.toArray 32)) (by omega) HJ6.bel.size
              obtain ⟨a7, c7, rfl⟩ := rowSl ho7
              have HJ : Hid (ArI w w7 b sz (.slice a7 (sl ++ [o]).length c7) (sl ++ [o]) (sl ++ [o]) (u + 1)) := HJ6.app hk7 ho7
              clear HJ6 ho7 hk7 H5
              go_wp2_with (at_builtin; refine wpList_appL _ rfl _ _ 22 rfl _ _ rfl rfl (hr _) ?_)
              clear hr
              obtain ⟨nv2, ms2, hn1, hn2, hn3, hn4⟩ := HJ.out.net
              have HLN : Hid (Calls Try.prog 15 #[.pointer (some ⟨b, 0, none⟩)] w7 fun e w' => e = .returned (.int .i64 ((u : Int) + 1)) ∧ w' = w7) := by
                have := len_anyL hn1
                rw [hn2] at this
                exact this
              clear hn1 hn2 hn3 hn4
              go_wp2_with fail
              refine HLN.out.mono ?_
              rintro _ _ ⟨rfl, rfl⟩
              go_wp2_with fail
              go_roundw
              case rel => exact ⟨i + 1, (u + 1), (sl ++ [o]), a7, c7, by omega, by simp, by simp, by omega, by first | omega | (simp; omega), by first | rfl | simp, HJ.out⟩
              case measure => simp [intOf]; omega
          · have d1 : (o.kd == 1) = false := by simpa using e1
            clear e1
            by_cases e2 : o.kd = 3
            · have d2 : (o.kd == 3) = true := by simpa using e2
              clear e2
              by_cases hp : o.pl < 0 ∨ (ms.length : Int) ≤ o.pl
              · have HD : Hid _ := double_no HNT.out.1 o.pl hp
                clear hp
                go_wp2_with fail
                refine Calls.mono HD.out ?_
                rintro _ w4 ⟨rfl, kk, rfl⟩
                have HJ : Hid (ArI w (wb.drewN kk) b sz (.slice sa sl.length sc) sl sl u) := HB.out.2.below (below_drewN (Below.refl _ _) kk)
                obtain ⟨nv2, ms2, hn1, hn2, hn3, hn4⟩ := HJ.out.net
                have HLN : Hid (Calls Try.prog 15 #[.pointer (some ⟨b, 0, none⟩)] (wb.drewN kk) fun e w' => e = .returned (.int .i64 (u : Int)) ∧ w' = (wb.drewN kk)) := by
                  have := len_anyL hn1
                  rw [hn2] at this
                  exact this
                clear hn1 hn2 hn3 hn4
                go_wp2_with fail
                refine HLN.out.mono ?_
                rintro _ _ ⟨rfl, rfl⟩
                go_wp2_with fail
                go_roundw
                case rel => exact ⟨i + 1, u, sl, sa, sc, by omega, by simp, by simp, by omega, by first | omega | (simp; omega), by first | rfl | simp, HJ.out⟩
                case measure => simp [intOf]; omega
              · obtain ⟨p, hpp⟩ : ∃ p : Nat, o.pl = (p : Int) := ⟨o.pl.toNat, by omega⟩
                obtain ⟨m, hm⟩ : ∃ m, ms[p]? = some m := ⟨_, List.getElem?_eq_getElem (by omega)⟩
                have HD : Hid _ := double_yes HNT.out.1 hm hml
                rw [← hpp] at HD
                clear hp hpp
                go_wp2_with fail
                refine Calls.mono HD.out ?_
                rintro _ w4 ⟨rfl, nv', R, g1, g2, g3, g4⟩
                have HJ : Hid (ArI w w4 b sz (.slice sa sl.length sc) sl sl (u + 1)) := HB.out.2.double HNT.out.1 HNT.out.2.1 HNT.out.2.2.1 HNT.out.2.2.2 (List.mem_of_getElem? hm) g1 g2 g3 g4
                clear g1 g2 g3 g4 HD hm
                obtain ⟨nv2, ms2, hn1, hn2, hn3, hn4⟩ := HJ.out.net
                have HLN : Hid (Calls Try.prog 15 #[.pointer (some ⟨b, 0, none⟩)] w4 fun e w' => e = .returned (.int .i64 ((u : Int) + 1)) ∧ w' = w4) := by
                  have := len_anyL hn1
                  rw [hn2] at this
                  exact this
                clear hn1 hn2 hn3 hn4
                go_wp2_with fail
                refine HLN.out.mono ?_
                rintro _ _ ⟨rfl, rfl⟩
                go_wp2_with fail
                go_roundw
                case rel => exact ⟨i + 1, (u + 1), sl, sa, sc, by omega, by simp, by simp, by omega, by first | omega | (simp; omega), by first | rfl | simp, HJ.out⟩
                case measure => simp [intOf]; omega
            · have d2 : (o.kd == 3) = false := by simpa using e2
              clear e2
              by_cases e3 : o.kd = 4
              · have d3 : (o.kd == 4) = true := by simpa using e3
                clear e3
                by_cases hp : o.pl < 0 ∨ (ms.length : Int) ≤ o.pl
                · have HD : Hid _ := spoil_none HNT.out.1 o.pl o.k o.x hp
                  clear hp
                  go_wp2_with fail
                  refine Calls.mono HD.out ?_
                  rintro _ w4 ⟨rfl, g1⟩
                  have HJ : Hid (ArI w w4 b sz (.slice sa sl.length sc) sl sl u) := HB.out.2.below g1
                  clear g1 HD
                  obtain ⟨nv2, ms2, hn1, hn2, hn3, hn4⟩ := HJ.out.net
                  have HLN : Hid (Calls Try.prog 15 #[.pointer (some ⟨b, 0, none⟩)] w4 fun e w' => e = .returned (.int .i64 (u : Int)) ∧ w' = w4) := by
                    have := len_anyL hn1
                    rw [hn2] at this
                    exact this
                  clear hn1 hn2 hn3 hn4
                  go_wp2_with fail
                  refine HLN.out.mono ?_
                  rintro _ _ ⟨rfl, rfl⟩
                  go_wp2_with fail
                  go_roundw
                  case rel => exact ⟨i + 1, u, sl, sa, sc, by omega, by simp, by simp, by omega, by first | omega | (simp; omega), by first | rfl | simp, HJ.out⟩
                  case measure => simp [intOf]; omega
                · obtain ⟨p, hpp⟩ : ∃ p : Nat, o.pl = (p : Int) := ⟨o.pl.toNat, by omega⟩
                  obtain ⟨m, hm⟩ : ∃ m, ms[p]? = some m := ⟨_, List.getElem?_eq_getElem (by omega)⟩
                  by_cases hE : spE m o.k o.x = 0
                  · obtain ⟨k, hk⟩ : ∃ k : Nat, o.k = (k : Int) := ⟨o.k.toNat, by
                      have : ¬ o.k < 0 := fun h => by unfold spE at hE; rw [if_pos (.inl h)] at hE; simp at hE
                      omega⟩
                    rw [hk] at hE
                    have HD : Hid _ := spoil_yes HNT.out.1 hm HO.out.x0 HO.out.x1 hE
                    have HD2 : Hid (∀ w', _ → _ → _) := fun w' g1 g2 => HB.out.2.spoil (w' := w') HNT.out.1 HNT.out.2.1 HNT.out.2.2.1 HNT.out.2.2.2 hm HO.out.x0 HO.out.x1 hE g1 g2
                    rw [← hpp, ← hk] at HD
                    clear hp hpp hk hE hm
                    go_wp2_with fail
                    refine Calls.mono HD.out ?_
                    rintro _ w4 ⟨rfl, g1, g2⟩
                    have HJ : Hid (ArI w w4 b sz (.slice sa sl.length sc) sl sl u) := HD2.out w4 g1 g2
                    clear g1 g2 HD HD2
                    obtain ⟨nv2, ms2, hn1, hn2, hn3, hn4⟩ := HJ.out.net
                    have HLN : Hid (Calls Try.prog 15 #[.pointer (some ⟨b, 0, none⟩)] w4 fun e w' => e = .returned (.int .i64 (u : Int)) ∧ w' = w4) := by
                      have := len_anyL hn1
                      rw [hn2] at this
                      exact this
                    clear hn1 hn2 hn3 hn4
                    go_wp2_with fail
                    refine HLN.out.mono ?_
                    rintro _ _ ⟨rfl, rfl⟩
                    go_wp2_with fail
                    go_roundw
                    case rel => exact ⟨i + 1, u, sl, sa, sc, by omega, by simp, by simp, by omega, by first | omega | (simp; omega), by first | rfl | simp, HJ.out⟩
                    case measure => simp [intOf]; omega
                  · have HD : Hid _ := spoil_no HNT.out.1 hm o.k o.x hE
                    rw [← hpp] at HD
                    clear hp hpp hE hm
                    go_wp2_with fail
                    refine Calls.mono HD.out ?_
                    rintro _ w4 ⟨rfl, g1⟩
                    have HJ : Hid (ArI w w4 b sz (.slice sa sl.length sc) sl sl u) := HB.out.2.below g1
                    clear g1 HD
                    obtain ⟨nv2, ms2, hn1, hn2, hn3, hn4⟩ := HJ.out.net
                    have HLN : Hid (Calls Try.prog 15 #[.pointer (some ⟨b, 0, none⟩)] w4 fun e w' => e = .returned (.int .i64 (u : Int)) ∧ w' = w4) := by
                      have := len_anyL hn1
                      rw [hn2] at this
                      exact this
                    clear hn1 hn2 hn3 hn4
                    go_wp2_with fail
                    refine HLN.out.mono ?_
                    rintro _ _ ⟨rfl, rfl⟩
                    go_wp2_with fail
                    go_roundw
                    case rel => exact ⟨i + 1, u, sl, sa, sc, by omega, by simp, by simp, by omega, by first | omega | (simp; omega), by first | rfl | simp, HJ.out⟩
                    case measure => simp [intOf]; omega
              · have d3 : (o.kd == 4) = false := by simpa using e3
                clear e3
                by_cases e4 : o.kd = 2
                · have d4 : (o.kd == 2) = true := by simpa using e4
                  clear e4
                  by_cases hp : o.pl < 0 ∨ (ms.length : Int) ≤ o.pl
                  · have HD : Hid _ := take_no HNT.out.1 o.pl hp
                    clear hp
                    go_wp2_with fail
                    refine Calls.mono HD.out ?_
                    rintro _ w4 ⟨rfl, g1⟩
                    have HJ : Hid (ArI w (w4.alloc (.cells #[.int .i8 0, .int .i8 0, .slice none 0 0, .bool false] 38)) b sz (.slice sa sl.length sc) sl sl u) := (HB.out.2.below g1).below (oneL w4 _)
                    clear g1 HD
                    go_wp2_with fail
                    go_roundw
                    case rel => exact ⟨i + 1, u, sl, sa, sc, by omega, by simp, rfl, by omega, by omega, rfl, HJ.out⟩
                    case measure => simp [intOf]; omega
                  · obtain ⟨p, hpp⟩ : ∃ p : Nat, o.pl = (p : Int) := ⟨o.pl.toNat, by omega⟩
                    obtain ⟨A, x, B, hms, hA⟩ := split_at (l := ms) (p := p) (by omega)
                    rw [hms] at HNT hml
                    have HD : Hid _ := take_yes HNT.out.1 hml
                    rw [hA, ← hpp] at HD
                    have hu1 : 1 ≤ u := by have := HNT.out.2.1; simp at this; omega
                    have HKX : Hid (sl.any (kn x) = true) := by
                      obtain ⟨o', ho', e⟩ := HNT.out.2.2.1 x (by simp)
                      exact List.any_eq_true.2 ⟨o', ho', e⟩
                    clear hp hpp hA
                    go_wp2_with fail
                    refine Calls.mono HD.out ?_
                    rintro _ w4 ⟨rfl, nv', g1, g2, g3, g4⟩
                    obtain ⟨w5, hw5⟩ : ∃ w5, w5 = w4.alloc (.cells x.cs.toArray 38) := ⟨_, rfl⟩
                    have HJ5 : Hid ((ArI w w5 b sz (.slice sa sl.length sc) sl sl (u - 1) ∧ w5.heap[w4.heap.size]? = some (.cells x.cs.toArray 38 (0, 0))) ∧ Sees w5 x.v x.bs) := by
                      rw [hw5]
                      exact ⟨⟨(HB.out.2.take HNT.out.1 HNT.out.2.1 HNT.out.2.2.1 HNT.out.2.2.2 g1 g2 g3).below (oneL w4 _), heap_alloc_new w4 _⟩, g4.sees.below (oneL w4 _) (Nat.le_refl _)⟩
                    clear g1 g2 g3 g4 HD hms hml HNT HB
                    go_upto_region 28 with fail
                    rw [← hw5]
                    clear hw5
                    generalize w4.heap.size = mb at *
                    go_wp2_with fail
                    go_loopw [14, 15] (fun vk vj wr => ∃ k : Nat, k ≤ sl.length ∧ vj = .int .i64 (k : Int) ∧ vk = .bool ((sl.take k).any (kn x)) ∧ Hid (Below w5.heap.size w5 wr)) (fun _ vj _ => sl.length - (intOf vj).toNat)
                    case atStart => exact ⟨0, by omega, rfl, rfl, Below.refl _ _⟩
                    case round =>
                      obtain ⟨k, hk, rfl, rfl, HW⟩ := hrel
                      by_cases hks : k < sl.length
                      · have hd2 : decide ((k : Int) < (sl.length : Int)) = true := by simp; omega
                        obtain ⟨o', ho'⟩ : ∃ o', sl[k]? = some o' := ⟨_, List.getElem?_eq_getElem hks⟩
                        obtain ⟨sg, rfl⟩ : ∃ sg, sa = some ⟨sg, 0, none⟩ := by
                          obtain ⟨g, e, _⟩ := row_atL HJ5.out.1.1.sent (opF_at sl k o' ho').1
                          exact ⟨g, e⟩
                        have HI : Hid (∀ W, Below w5.heap.size w5 W → InL W sg k o' mb x ∧ Sees W (.slice o'.ba o'.bs.length o'.bc) o'.bs ∧ Sees W x.v x.bs) := fun W hW => ⟨InL.of (HJ5.out.1.1.below hW) ho' (boxL HJ5.out.1.2 hW), ((HJ5.out.1.1.good o' (List.mem_of_getElem? ho')).se.below HJ5.out.1.1.bel (Nat.le_refl _)).below hW (Nat.le_refl _), HJ5.out.2.below hW (Nat.le_refl _)⟩
                        have HLL : Hid (o'.bs.length ≤ 140737488355328) := (HJ5.out.1.1.good o' (List.mem_of_getElem? ho')).len
                        have S0 : InL wr.drew sg k o' mb x ∧ Below w5.heap.size w5 wr.drew := ⟨(HI.out _ (below_drewN HW.out 1)).1, below_drewN HW.out 1⟩
                        have HT : Hid ((sl.take (k + 1)).any (kn x) = ((sl.take k).any (kn x) || (decide (o'.f = x.f) && decide (o'.t = x.t) && nearB o'.bs x.bs x.sp))) := any_takeL ho'
                        clear ho'
                        generalize (sl.take k).any (kn x) = kb at *
                        cases kb with
                        | true =>
                          go_upto_region 31 with fail
                          refine wp_region_held_drew (S := (fun W => InL W sg k o' mb x ∧ Below w5.heap.size w5 W)) (by kernel_rfl) ?_ (fun hHeld => ?_)
                          · exact S0
                          refine wpAnyH_take (i := 0) (oi := { dst := some 112, op := Op.move (Operand.tmp 14), type := 4, pos := "law.go:181", after := #[], guard := none }) (v := ?_) rfl (by kernel_rfl) (by kernel_rfl) (by kernel_rfl) (fun _ _ _ h => h) (Or.inl ⟨by rfl, ?_⟩) (by assumption) ?_
                          rotate_left
                          · (intro w hSw; (try dsimp only at hSw); obtain ⟨⟨s2, s3, s4, s5, s6, s7, s8, s9, s10⟩, _⟩ := hSw; go_simp) <;> with_reducible rfl
                          try simp only [Act.put, List.setIfInBounds_toArray, List.set_cons_zero, List.set_cons_succ]
                          refine wpAnyH_take (i := 1) (oi := { dst := some 113, op := Op.move (Operand.tmp 112), type := 4, pos := "law.go:181", after := #[{ on := 0, ground := Ground.data }], guard := none }) (v := ?_) rfl (by kernel_rfl) (by kernel_rfl) (by kernel_rfl) (fun _ _ _ h => h) (Or.inl ⟨by rfl, ?_⟩) (by assumption) ?_
                          rotate_left
                          · (intro w hSw; (try dsimp only at hSw); obtain ⟨⟨s2, s3, s4, s5, s6, s7, s8, s9, s10⟩, _⟩ := hSw; go_simp) <;> with_reducible rfl
                          try simp only [Act.put, List.setIfInBounds_toArray, List.set_cons_zero, List.set_cons_succ]
                          refine wpAnyH_take (i := 2) (oi := { dst := some 114, op := Op.move (Operand.tmp 8), type := 22, pos := "law.go:181", after := #[{ on := 1, ground := Ground.guard }], guard := some (1, false) }) (v := undef) rfl (by kernel_rfl) (by kernel_rfl) (by kernel_rfl) (fun _ _ _ h => h) (Or.inr ⟨by rfl, rfl⟩) (by assumption) ?_
                          try simp only [Act.put, List.setIfInBounds_toArray, List.set_cons_zero, List.set_cons_succ]
                          refine wpAnyH_take (i := 3) (oi := { dst := some 115, op := Op.move (Operand.tmp 15), type := 3, pos := "law.go:181", after := #[{ on := 1, ground := Ground.guard }], guard := some (1, false) }) (v := undef) rfl (by kernel_rfl) (by kernel_rfl) (by kernel_rfl) (fun _ _ _ h => h) (Or.inr ⟨by rfl, rfl⟩) (by assumption) ?_
                          try simp only [Act.put, List.setIfInBounds_toArray, List.set_cons_zero, List.set_cons_succ]
                          refine wpAnyH_take (i := 4) (oi := { dst := some 116, op := Op.indexAddr 22 (Operand.tmp 114) (Operand.tmp 115), type := 0, pos := "law.go:181", after := #[{ on := 2, ground := Ground.data }, { on := 3, ground := Ground.data }, { on := 1, ground := Ground.guard }], guard := some (1, false) }) (v := undef) rfl (by kernel_rfl) (by kernel_rfl) (by kernel_rfl) (fun _ _ _ h => h) (Or.inr ⟨by rfl, rfl⟩) (by assumption) ?_
                          try simp only [Act.put, List.setIfInBounds_toArray, List.set_cons_zero, List.set_cons_succ]
                          refine wpAnyH_take (i := 5) (oi := { dst := some 117, op := Op.fieldAddr 32 (Operand.tmp 116) 2, type := 0, pos := "law.go:181", after := #[{ on := 4, ground := Ground.data }, { on := 1, ground := Ground.guard }], guard := some (1, false) }) (v := undef) rfl (by kernel_rfl) (by kernel_rfl) (by kernel_rfl) (fun _ _ _ h => h) (Or.inr ⟨by rfl, rfl⟩) (by assumption) ?_
                          try simp only [Act.put, List.setIfInBounds_toArray, List.set_cons_zero, List.set_cons_succ]
                          refine wpAnyH_take (i := 6) (oi := { dst := some 118, op := Op.load 29 (Operand.tmp 117), type := 29, pos := "law.go:181", after := #[{ on := 5, ground := Ground.data }, { on := 1, ground := Ground.guard }], guard := some (1, false) }) (v := undef) rfl (by kernel_rfl) (by kernel_rfl) (by kernel_rfl) (fun _ _ _ h => h) (Or.inr ⟨by rfl, rfl⟩) (by assumption) ?_
                          try simp only [Act.put, List.setIfInBounds_toArray, List.set_cons_zero, List.set_cons_succ]
                          refine wpAnyH_take (i := 7) (oi := { dst := some 119, op := Op.fieldAddr 38 (Operand.tmp 12) 0, type := 0, pos := "law.go:181", after := #[{ on := 1, ground := Ground.guard }], guard := some (1, false) }) (v := undef) rfl (by kernel_rfl) (by kernel_rfl) (by kernel_rfl) (fun _ _ _ h => h) (Or.inr ⟨by rfl, rfl⟩) (by assumption) ?_
                          try simp only [Act.put, List.setIfInBounds_toArray, List.set_cons_zero, List.set_cons_succ]
                          refine wpAnyH_take (i := 8) (oi := { dst := some 120, op := Op.load 29 (Operand.tmp 119), type := 29, pos := "law.go:181", after := #[{ on := 7, ground := Ground.data }, { on := 1, ground := Ground.guard }], guard := some (1, false) }) (v := undef) rfl (by kernel_rfl) (by kernel_rfl) (by kernel_rfl) (fun _ _ _ h => h) (Or.inr ⟨by rfl, rfl⟩) (by assumption) ?_
                          try simp only [Act.put, List.setIfInBounds_toArray, List.set_cons_zero, List.set_cons_succ]
                          refine wpAnyH_take (i := 9) (oi := { dst := some 121, op := Op.binOp BinOp.eql 29 (Operand.tmp 118) (Operand.tmp 120) 29, type := 4, pos := "law.go:181", after := #[{ on := 6, ground := Ground.data }, { on := 8, ground := Ground.data }, { on := 1, ground := Ground.guard }], guard := some (1, false) }) (v := undef) rfl (by kernel_rfl) (by kernel_rfl) (by kernel_rfl) (fun _ _ _ h => h) (Or.inr ⟨by rfl, rfl⟩) (by assumption) ?_
                          try simp only [Act.put, List.setIfInBounds_toArray, List.set_cons_zero, List.set_cons_succ]
                          refine wpAnyH_take (i := 10) (oi := { dst := some 122, op := Op.move (Operand.tmp 121), type := 4, pos := "law.go:181", after := #[{ on := 9, ground := Ground.data }, { on := 1, ground := Ground.chain }, { on := 1, ground := Ground.guard }], guard := some (1, false) }) (v := undef) rfl (by kernel_rfl) (by kernel_rfl) (by kernel_rfl) (fun _ _ _ h => h) (Or.inr ⟨by rfl, rfl⟩) (by assumption) ?_
                          try simp only [Act.put, List.setIfInBounds_toArray, List.set_cons_zero, List.set_cons_succ]
                          refine wpAnyH_take (i := 11) (oi := { dst := some 123, op := Op.move (Operand.tmp 8), type := 22, pos := "law.go:181", after := #[{ on := 10, ground := Ground.guard }], guard := some (10, true) }) (v := undef) rfl (by kernel_rfl) (by kernel_rfl) (by kernel_rfl) (fun _ _ _ h => h) (Or.inr ⟨by rfl, rfl⟩) (by assumption) ?_
                          try simp only [Act.put, List.setIfInBounds_toArray, List.set_cons_zero, List.set_cons_succ]
                          refine wpAnyH_take (i := 12) (oi := { dst := some 124, op := Op.move (Operand.tmp 15), type := 3, pos := "law.go:181", after := #[{ on := 10, ground := Ground.guard }], guard := some (10, true) }) (v := undef) rfl (by kernel_rfl) (by kernel_rfl) (by kernel_rfl) (fun _ _ _ h => h) (Or.inr ⟨by rfl, rfl⟩) (by assumption) ?_
                          try simp only [Act.put, List.setIfInBounds_toArray, List.set_cons_zero, List.set_cons_succ]
                          refine wpAnyH_take (i := 13) (oi := { dst := some 125, op := Op.indexAddr 22 (Operand.tmp 123) (Operand.tmp 124), type := 0, pos := "law.go:181", after := #[{ on := 11, ground := Ground.data }, { on := 12, ground := Ground.data }, { on := 10, ground := Ground.guard }], guard := some (10, true) }) (v := undef) rfl (by kernel_rfl) (by kernel_rfl) (by kernel_rfl) (fun _ _ _ h => h) (Or.inr ⟨by rfl, rfl⟩) (by assumption) ?_
                          try simp only [Act.put, List.setIfInBounds_toArray, List.set_cons_zero, List.set_cons_succ]
                          refine wpAnyH_take (i := 14) (oi := { dst := some 126, op := Op.fieldAddr 32 (Operand.tmp 125) 3, type := 0, pos := "law.go:181", after := #[{ on := 13, ground := Ground.data }, { on := 10, ground := Ground.guard }], guard := some (10, true) }) (v := undef) rfl (by kernel_rfl) (by kernel_rfl) (by kernel_rfl) (fun _ _ _ h => h) (Or.inr ⟨by rfl, rfl⟩) (by assumption) ?_
                          try simp only [Act.put, List.setIfInBounds_toArray, List.set_cons_zero, List.set_cons_succ]
                          refine wpAnyH_take (i := 15) (oi := { dst := some 127, op := Op.load 29 (Operand.tmp 126), type := 29, pos := "law.go:181", after := #[{ on := 14, ground := Ground.data }, { on := 10, ground := Ground.guard }], guard := some (10, true) }) (v := undef) rfl (by kernel_rfl) (by kernel_rfl) (by kernel_rfl) (fun _ _ _ h => h) (Or.inr ⟨by rfl, rfl⟩) (by assumption) ?_
                          try simp only [Act.put, List.setIfInBounds_toArray, List.set_cons_zero, List.set_cons_succ]
                          refine wpAnyH_take (i := 16) (oi := { dst := some 128, op := Op.fieldAddr 38 (Operand.tmp 12) 1, type := 0, pos := "law.go:181", after := #[{ on := 10, ground := Ground.guard }], guard := some (10, true) }) (v := undef) rfl (by kernel_rfl) (by kernel_rfl) (by kernel_rfl) (fun _ _ _ h => h) (Or.inr ⟨by rfl, rfl⟩) (by assumption) ?_
                          try simp only [Act.put, List.setIfInBounds_toArray, List.set_cons_zero, List.set_cons_succ]
                          refine wpAnyH_take (i := 17) (oi := { dst := some 129, op := Op.load 29 (Operand.tmp 128), type := 29, pos := "law.go:181", after := #[{ on := 16, ground := Ground.data }, { on := 10, ground := Ground.guard }], guard := some (10, true) }) (v := undef) rfl (by kernel_rfl) (by kernel_rfl) (by kernel_rfl) (fun _ _ _ h => h) (Or.inr ⟨by rfl, rfl⟩) (by assumption) ?_
                          try simp only [Act.put, List.setIfInBounds_toArray, List.set_cons_zero, List.set_cons_succ]
                          refine wpAnyH_take (i := 18) (oi := { dst := some 130, op := Op.binOp BinOp.eql 29 (Operand.tmp 127) (Operand.tmp 129) 29, type := 4, pos := "law.go:181", after := #[{ on := 15, ground := Ground.data }, { on := 17, ground := Ground.data }, { on := 10, ground := Ground.guard }], guard := some (10, true) }) (v := undef) rfl (by kernel_rfl) (by kernel_rfl) (by kernel_rfl) (fun _ _ _ h => h) (Or.inr ⟨by rfl, rfl⟩) (by assumption) ?_
                          try simp only [Act.put, List.setIfInBounds_toArray, List.set_cons_zero, List.set_cons_succ]
                          refine wpAnyH_take (i := 19) (oi := { dst := some 131, op := Op.pick (Operand.tmp 122) (Operand.tmp 130) (Operand.const (Value.bool false)), type := 4, pos := "law.go:181", after := #[{ on := 10, ground := Ground.data }, { on := 18, ground := Ground.data }, { on := 1, ground := Ground.guard }], guard := some (1, false) }) (v := undef) rfl (by kernel_rfl) (by kernel_rfl) (by kernel_rfl) (fun _ _ _ h => h) (Or.inr ⟨by rfl, rfl⟩) (by assumption) ?_
                          try simp only [Act.put, List.setIfInBounds_toArray, List.set_cons_zero, List.set_cons_succ]
                          refine wpAnyH_take (i := 20) (oi := { dst := some 132, op := Op.move (Operand.tmp 131), type := 4, pos := "law.go:181", after := #[{ on := 19, ground := Ground.data }, { on := 10, ground := Ground.chain }, { on := 1, ground := Ground.guard }], guard := some (1, false) }) (v := undef) rfl (by kernel_rfl) (by kernel_rfl) (by kernel_rfl) (fun _ _ _ h => h) (Or.inr ⟨by rfl, rfl⟩) (by assumption) ?_
                          try simp only [Act.put, List.setIfInBounds_toArray, List.set_cons_zero, List.set_cons_succ]
                          refine wpAnyH_take (i := 21) (oi := { dst := some 133, op := Op.move (Operand.tmp 8), type := 22, pos := "law.go:181", after := #[{ on := 20, ground := Ground.guard }], guard := some (20, true) }) (v := undef) rfl (by kernel_rfl) (by kernel_rfl) (by kernel_rfl) (fun _ _ _ h => h) (Or.inr ⟨by rfl, rfl⟩) (by assumption) ?_
                          try simp only [Act.put, List.setIfInBounds_toArray, List.set_cons_zero, List.set_cons_succ]
                          refine wpAnyH_take (i := 22) (oi := { dst := some 134, op := Op.move (Operand.tmp 15), type := 3, pos := "law.go:181", after := #[{ on := 20, ground := Ground.guard }], guard := some (20, true) }) (v := undef) rfl (by kernel_rfl) (by kernel_rfl) (by kernel_rfl) (fun _ _ _ h => h) (Or.inr ⟨by rfl, rfl⟩) (by assumption) ?_
                          try simp only [Act.put, List.setIfInBounds_toArray, List.set_cons_zero, List.set_cons_succ]
                          refine wpAnyH_take (i := 23) (oi := { dst := some 135, op := Op.indexAddr 22 (Operand.tmp 133) (Operand.tmp 134), type := 0, pos := "law.go:181", after := #[{ on := 21, ground := Ground.data }, { on := 22, ground := Ground.data }, { on := 20, ground := Ground.guard }], guard := some (20, true) }) (v := undef) rfl (by kernel_rfl) (by kernel_rfl) (by kernel_rfl) (fun _ _ _ h => h) (Or.inr ⟨by rfl, rfl⟩) (by assumption) ?_
                          try simp only [Act.put, List.setIfInBounds_toArray, List.set_cons_zero, List.set_cons_succ]
                          refine wpAnyH_take (i := 24) (oi := { dst := some 136, op := Op.fieldAddr 32 (Operand.tmp 135) 4, type := 0, pos := "law.go:181", after := #[{ on := 23, ground := Ground.data }, { on := 20, ground := Ground.guard }], guard := some (20, true) }) (v := undef) rfl (by kernel_rfl) (by kernel_rfl) (by kernel_rfl) (fun _ _ _ h => h) (Or.inr ⟨by rfl, rfl⟩) (by assumption) ?_
                          try simp only [Act.put, List.setIfInBounds_toArray, List.set_cons_zero, List.set_cons_succ]
                          refine wpAnyH_take (i := 25) (oi := { dst := some 137, op := Op.load 30 (Operand.tmp 136), type := 30, pos := "law.go:181", after := #[{ on := 24, ground := Ground.data }, { on := 20, ground := Ground.guard }], guard := some (20, true) }) (v := undef) rfl (by kernel_rfl) (by kernel_rfl) (by kernel_rfl) (fun _ _ _ h => h) (Or.inr ⟨by rfl, rfl⟩) (by assumption) ?_
                          try simp only [Act.put, List.setIfInBounds_toArray, List.set_cons_zero, List.set_cons_succ]
                          refine wpAnyH_take (i := 26) (oi := { dst := some 138, op := Op.fieldAddr 38 (Operand.tmp 12) 2, type := 0, pos := "law.go:181", after := #[{ on := 20, ground := Ground.guard }], guard := some (20, true) }) (v := undef) rfl (by kernel_rfl) (by kernel_rfl) (by kernel_rfl) (fun _ _ _ h => h) (Or.inr ⟨by rfl, rfl⟩) (by assumption) ?_
                          try simp only [Act.put, List.setIfInBounds_toArray, List.set_cons_zero, List.set_cons_succ]
                          refine wpAnyH_take (i := 27) (oi := { dst := some 139, op := Op.load 30 (Operand.tmp 138), type := 30, pos := "law.go:181", after := #[{ on := 26, ground := Ground.data }, { on := 20, ground := Ground.guard }], guard := some (20, true) }) (v := undef) rfl (by kernel_rfl) (by kernel_rfl) (by kernel_rfl) (fun _ _ _ h => h) (Or.inr ⟨by rfl, rfl⟩) (by assumption) ?_
                          try simp only [Act.put, List.setIfInBounds_toArray, List.set_cons_zero, List.set_cons_succ]
                          refine wpAnyH_take (i := 28) (oi := { dst := some 140, op := Op.fieldAddr 38 (Operand.tmp 12) 3, type := 0, pos := "law.go:181", after := #[{ on := 20, ground := Ground.guard }], guard := some (20, true) }) (v := undef) rfl (by kernel_rfl) (by kernel_rfl) (by kernel_rfl) (fun _ _ _ h => h) (Or.inr ⟨by rfl, rfl⟩) (by assumption) ?_
                          try simp only [Act.put, List.setIfInBounds_toArray, List.set_cons_zero, List.set_cons_succ]
                          refine wpAnyH_take (i := 29) (oi := { dst := some 141, op := Op.load 4 (Operand.tmp 140), type := 4, pos := "law.go:181", after := #[{ on := 28, ground := Ground.data }, { on := 20, ground := Ground.guard }], guard := some (20, true) }) (v := undef) rfl (by kernel_rfl) (by kernel_rfl) (by kernel_rfl) (fun _ _ _ h => h) (Or.inr ⟨by rfl, rfl⟩) (by assumption) ?_
                          try simp only [Act.put, List.setIfInBounds_toArray, List.set_cons_zero, List.set_cons_succ]
                          refine wpAnyH_ready (rs := [30]) (by kernel_rfl) (by simp) ?_
                          refine AllReadyH.cons (o := { dst := some 142, op := Op.call { callee := Callee.value (Operand.func 14), args := #[Operand.tmp 137, Operand.tmp 139, Operand.tmp 141], argTypes := #[30, 30, 4] }, type := 4, pos := "law.go:181", after := #[{ on := 25, ground := Ground.data }, { on := 27, ground := Ground.data }, { on := 29, ground := Ground.data }, { on := 20, ground := Ground.chain }, { on := 20, ground := Ground.guard }], guard := some (20, true) }) rfl (fun K hK => ?_) AllReadyH.nil
                          go_simp
                          refine hK.out _ _ (by assumption) (fun _ => ?_)
                          clear hK K
                          refine wpAnyH_take (i := 31) (oi := { dst := some 143, op := Op.pick (Operand.tmp 132) (Operand.tmp 142) (Operand.const (Value.bool false)), type := 4, pos := "law.go:181", after := #[{ on := 20, ground := Ground.data }, { on := 30, ground := Ground.data }, { on := 1, ground := Ground.guard }], guard := some (1, false) }) (v := undef) rfl (by kernel_rfl) (by kernel_rfl) (by kernel_rfl) (fun _ _ _ h => h) (Or.inr ⟨by rfl, rfl⟩) (by assumption) ?_
                          try simp only [Act.put, List.setIfInBounds_toArray, List.set_cons_zero, List.set_cons_succ]
                          refine wpAnyH_take (i := 32) (oi := { dst := some 144, op := Op.pick (Operand.tmp 113) (Operand.const (Value.bool true)) (Operand.tmp 143), type := 4, pos := "law.go:181", after := #[{ on := 1, ground := Ground.data }, { on := 31, ground := Ground.data }], guard := none }) (v := ?_) rfl (by kernel_rfl) (by kernel_rfl) (by kernel_rfl) (fun _ _ _ h => h) (Or.inl ⟨by rfl, ?_⟩) (by assumption) ?_
                          rotate_left
                          · (intro w hSw; (try dsimp only at hSw); obtain ⟨⟨s2, s3, s4, s5, s6, s7, s8, s9, s10⟩, _⟩ := hSw; go_simp) <;> with_reducible rfl
                          try simp only [Act.put, List.setIfInBounds_toArray, List.set_cons_zero, List.set_cons_succ]
                          refine wpAnyH_take (i := 33) (oi := { dst := some 14, op := Op.assign (Operand.tmp 144), type := 4, pos := "law.go:181", after := #[{ on := 32, ground := Ground.data }, { on := 30, ground := Ground.chain }, { on := 0, ground := Ground.phase }, { on := 1, ground := Ground.phase }, { on := 2, ground := Ground.phase }, { on := 3, ground := Ground.phase }, { on := 4, ground := Ground.phase }, { on := 5, ground := Ground.phase }, { on := 6, ground := Ground.phase }, { on := 7, ground := Ground.phase }, { on := 8, ground := Ground.phase }, { on := 9, ground := Ground.phase }, { on := 10, ground := Ground.phase }, { on := 11, ground := Ground.phase }, { on := 12, ground := Ground.phase }, { on := 13, ground := Ground.phase }, { on := 14, ground := Ground.phase }, { on := 15, ground := Ground.phase }, { on := 16, ground := Ground.phase }, { on := 17, ground := Ground.phase }, { on := 18, ground := Ground.phase }, { on := 19, ground := Ground.phase }, { on := 20, ground := Ground.phase }, { on := 21, ground := Ground.phase }, { on := 22, ground := Ground.phase }, { on := 23, ground := Ground.phase }, { on := 24, ground := Ground.phase }, { on := 25, ground := Ground.phase }, { on := 26, ground := Ground.phase }, { on := 27, ground := Ground.phase }, { on := 28, ground := Ground.phase }, { on := 29, ground := Ground.phase }, { on := 30, ground := Ground.phase }, { on := 31, ground := Ground.phase }, { on := 32, ground := Ground.phase }], guard := none }) (v := ?_) rfl (by kernel_rfl) (by kernel_rfl) (by kernel_rfl) (fun _ _ _ h => h) (Or.inl ⟨by rfl, ?_⟩) (by assumption) ?_
                          rotate_left
                          · (intro w hSw; (try dsimp only at hSw); obtain ⟨⟨s2, s3, s4, s5, s6, s7, s8, s9, s10⟩, _⟩ := hSw; go_simp) <;> with_reducible rfl
                          try simp only [Act.put, List.setIfInBounds_toArray, List.set_cons_zero, List.set_cons_succ]
                          refine wpAnyH_done (by kernel_rfl) ?_ _
                          have HWn : Hid _ := hHeld.2
                          clear hHeld S0
                          go_wp2_with fail
                          go_roundw
                          case rel => exact ⟨k + 1, by omega, by simp, by rw [HT.out]; simp, HWn.out⟩
                          case measure => simp [intOf]; omega
                        | false =>
                          by_cases c1 : o'.f = x.f
                          · have d6 : (o'.f == x.f) = true := by simpa using c1
                            by_cases c2 : o'.t = x.t
                            · have d7 : (o'.t == x.t) = true := by simpa using c2
                              have HT2 : Hid ((sl.take (k + 1)).any (kn x) = nearB o'.bs x.bs x.sp) := by show _ = _; rw [HT.out, c1, c2]; simp
                              clear HT c1 c2
                              go_upto_region 31 with fail
                              refine wp_region_held_drew (S := (fun W => InL W sg k o' mb x ∧ Below w5.heap.size w5 W)) (by kernel_rfl) ?_ (fun hHeld => ?_)
                              · exact S0
                              refine wpAnyH_take (i := 0) (oi := { dst := some 112, op := Op.move (Operand.tmp 14), type := 4, pos := "law.go:181", after := #[], guard := none }) (v := ?_) rfl (by kernel_rfl) (by kernel_rfl) (by kernel_rfl) (fun _ _ _ h => h) (Or.inl ⟨by rfl, ?_⟩) (by assumption) ?_
                              rotate_left
                              · (intro w hSw; (try dsimp only at hSw); obtain ⟨⟨s2, s3, s4, s5, s6, s7, s8, s9, s10⟩, _⟩ := hSw; go_simp) <;> with_reducible rfl
                              try simp only [Act.put, List.setIfInBounds_toArray, List.set_cons_zero, List.set_cons_succ]
                              refine wpAnyH_take (i := 1) (oi := { dst := some 113, op := Op.move (Operand.tmp 112), type := 4, pos := "law.go:181", after := #[{ on := 0, ground := Ground.data }], guard := none }) (v := ?_) rfl (by kernel_rfl) (by kernel_rfl) (by kernel_rfl) (fun _ _ _ h => h) (Or.inl ⟨by rfl, ?_⟩) (by assumption) ?_
                              rotate_left
                              · (intro w hSw; (try dsimp only at hSw); obtain ⟨⟨s2, s3, s4, s5, s6, s7, s8, s9, s10⟩, _⟩ := hSw; go_simp) <;> with_reducible rfl
                              try simp only [Act.put, List.setIfInBounds_toArray, List.set_cons_zero, List.set_cons_succ]
                              refine wpAnyH_take (i := 2) (oi := { dst := some 114, op := Op.move (Operand.tmp 8), type := 22, pos := "law.go:181", after := #[{ on := 1, ground := Ground.guard }], guard := some (1, false) }) (v := ?_) rfl (by kernel_rfl) (by kernel_rfl) (by kernel_rfl) (fun _ _ _ h => h) (Or.inl ⟨by rfl, ?_⟩) (by assumption) ?_
                              rotate_left
                              · (intro w hSw; (try dsimp only at hSw); obtain ⟨⟨s2, s3, s4, s5, s6, s7, s8, s9, s10⟩, _⟩ := hSw; go_simp) <;> with_reducible rfl
                              try simp only [Act.put, List.setIfInBounds_toArray, List.set_cons_zero, List.set_cons_succ]
                              refine wpAnyH_take (i := 3) (oi := { dst := some 115, op := Op.move (Operand.tmp 15), type := 3, pos := "law.go:181", after := #[{ on := 1, ground := Ground.guard }], guard := some (1, false) }) (v := ?_) rfl (by kernel_rfl) (by kernel_rfl) (by kernel_rfl) (fun _ _ _ h => h) (Or.inl ⟨by rfl, ?_⟩) (by assumption) ?_
                              rotate_left
                              · (intro w hSw; (try dsimp only at hSw); obtain ⟨⟨s2, s3, s4, s5, s6, s7, s8, s9, s10⟩, _⟩ := hSw; go_simp) <;> with_reducible rfl
                              try simp only [Act.put, List.setIfInBounds_toArray, List.set_cons_zero, List.set_cons_succ]
                              refine wpAnyH_take (i := 4) (oi := { dst := some 116, op := Op.indexAddr 22 (Operand.tmp 114) (Operand.tmp 115), type := 0, pos := "law.go:181", after := #[{ on := 2, ground := Ground.data }, { on := 3, ground := Ground.data }, { on := 1, ground := Ground.guard }], guard := some (1, false) }) (v := ?_) rfl (by kernel_rfl) (by kernel_rfl) (by kernel_rfl) (fun _ _ _ h => h) (Or.inl ⟨by rfl, ?_⟩) (by assumption) ?_
                              rotate_left
                              · (intro w hSw; (try dsimp only at hSw); obtain ⟨⟨s2, s3, s4, s5, s6, s7, s8, s9, s10⟩, _⟩ := hSw; go_simp) <;> with_reducible rfl
                              try simp only [Act.put, List.setIfInBounds_toArray, List.set_cons_zero, List.set_cons_succ]
                              refine wpAnyH_take (i := 5) (oi := { dst := some 117, op := Op.fieldAddr 32 (Operand.tmp 116) 2, type := 0, pos := "law.go:181", after := #[{ on := 4, ground := Ground.data }, { on := 1, ground := Ground.guard }], guard := some (1, false) }) (v := ?_) rfl (by kernel_rfl) (by kernel_rfl) (by kernel_rfl) (fun _ _ _ h => h) (Or.inl ⟨by rfl, ?_⟩) (by assumption) ?_
                              rotate_left
                              · (intro w hSw; (try dsimp only at hSw); obtain ⟨⟨s2, s3, s4, s5, s6, s7, s8, s9, s10⟩, _⟩ := hSw; go_simp) <;> with_reducible rfl
                              try simp only [Act.put, List.setIfInBounds_toArray, List.set_cons_zero, List.set_cons_succ]
                              refine wpAnyH_take (i := 6) (oi := { dst := some 118, op := Op.load 29 (Operand.tmp 117), type := 29, pos := "law.go:181", after := #[{ on := 5, ground := Ground.data }, { on := 1, ground := Ground.guard }], guard := some (1, false) }) (v := ?_) rfl (by kernel_rfl) (by kernel_rfl) (by kernel_rfl) (fun _ _ _ h => h) (Or.inl ⟨by rfl, ?_⟩) (by assumption) ?_
                              rotate_left
                              · (intro w hSw; (try dsimp only at hSw); obtain ⟨⟨s2, s3, s4, s5, s6, s7, s8, s9, s10⟩, _⟩ := hSw; go_simp) <;> with_reducible rfl
                              try simp only [Act.put, List.setIfInBounds_toArray, List.set_cons_zero, List.set_cons_succ]
                              refine wpAnyH_take (i := 7) (oi := { dst := some 119, op := Op.fieldAddr 38 (Operand.tmp 12) 0, type := 0, pos := "law.go:181", after := #[{ on := 1, ground := Ground.guard }], guard := some (1, false) }) (v := ?_) rfl (by kernel_rfl) (by kernel_rfl) (by kernel_rfl) (fun _ _ _ h => h) (Or.inl ⟨by rfl, ?_⟩) (by assumption) ?_
                              rotate_left
                              · (intro w hSw; (try dsimp only at hSw); obtain ⟨⟨s2, s3, s4, s5, s6, s7, s8, s9, s10⟩, _⟩ := hSw; go_simp) <;> with_reducible rfl
                              try simp only [Act.put, List.setIfInBounds_toArray, List.set_cons_zero, List.set_cons_succ]
                              refine wpAnyH_take (i := 8) (oi := { dst := some 120, op := Op.load 29 (Operand.tmp 119), type := 29, pos := "law.go:181", after := #[{ on := 7, ground := Ground.data }, { on := 1, ground := Ground.guard }], guard := some (1, false) }) (v := ?_) rfl (by kernel_rfl) (by kernel_rfl) (by kernel_rfl) (fun _ _ _ h => h) (Or.inl ⟨by rfl, ?_⟩) (by assumption) ?_
                              rotate_left
                              · (intro w hSw; (try dsimp only at hSw); obtain ⟨⟨s2, s3, s4, s5, s6, s7, s8, s9, s10⟩, _⟩ := hSw; go_simp) <;> with_reducible rfl
                              try simp only [Act.put, List.setIfInBounds_toArray, List.set_cons_zero, List.set_cons_succ]
                              refine wpAnyH_take (i := 9) (oi := { dst := some 121, op := Op.binOp BinOp.eql 29 (Operand.tmp 118) (Operand.tmp 120) 29, type := 4, pos := "law.go:181", after := #[{ on := 6, ground := Ground.data }, { on := 8, ground := Ground.data }, { on := 1, ground := Ground.guard }], guard := some (1, false) }) (v := ?_) rfl (by kernel_rfl) (by kernel_rfl) (by kernel_rfl) (fun _ _ _ h => h) (Or.inl ⟨by rfl, ?_⟩) (by assumption) ?_
                              rotate_left
                              · (intro w hSw; (try dsimp only at hSw); obtain ⟨⟨s2, s3, s4, s5, s6, s7, s8, s9, s10⟩, _⟩ := hSw; go_simp) <;> with_reducible rfl
                              try simp only [Act.put, List.setIfInBounds_toArray, List.set_cons_zero, List.set_cons_succ]
                              refine wpAnyH_take (i := 10) (oi := { dst := some 122, op := Op.move (Operand.tmp 121), type := 4, pos := "law.go:181", after := #[{ on := 9, ground := Ground.data }, { on := 1, ground := Ground.chain }, { on := 1, ground := Ground.guard }], guard := some (1, false) }) (v := ?_) rfl (by kernel_rfl) (by kernel_rfl) (by kernel_rfl) (fun _ _ _ h => h) (Or.inl ⟨by rfl, ?_⟩) (by assumption) ?_
                              rotate_left
                              · (intro w hSw; (try dsimp only at hSw); obtain ⟨⟨s2, s3, s4, s5, s6, s7, s8, s9, s10⟩, _⟩ := hSw; go_simp) <;> with_reducible rfl
                              try simp only [Act.put, List.setIfInBounds_toArray, List.set_cons_zero, List.set_cons_succ]
                              refine wpAnyH_take (i := 11) (oi := { dst := some 123, op := Op.move (Operand.tmp 8), type := 22, pos := "law.go:181", after := #[{ on := 10, ground := Ground.guard }], guard := some (10, true) }) (v := ?_) rfl (by kernel_rfl) (by kernel_rfl) (by kernel_rfl) (fun _ _ _ h => h) (Or.inl ⟨by rfl, ?_⟩) (by assumption) ?_
                              rotate_left
                              · (intro w hSw; (try dsimp only at hSw); obtain ⟨⟨s2, s3, s4, s5, s6, s7, s8, s9, s10⟩, _⟩ := hSw; go_simp) <;> with_reducible rfl
                              try simp only [Act.put, List.setIfInBounds_toArray, List.set_cons_zero, List.set_cons_succ]
                              refine wpAnyH_take (i := 12) (oi := { dst := some 124, op := Op.move (Operand.tmp 15), type := 3, pos := "law.go:181", after := #[{ on := 10, ground := Ground.guard }], guard := some (10, true) }) (v := ?_) rfl (by kernel_rfl) (by kernel_rfl) (by kernel_rfl) (fun _ _ _ h => h) (Or.inl ⟨by rfl, ?_⟩) (by assumption) ?_
                              rotate_left
                              · (intro w hSw; (try dsimp only at hSw); obtain ⟨⟨s2, s3, s4, s5, s6, s7, s8, s9, s10⟩, _⟩ := hSw; go_simp) <;> with_reducible rfl
                              try simp only [Act.put, List.setIfInBounds_toArray, List.set_cons_zero, List.set_cons_succ]
                              refine wpAnyH_take (i := 13) (oi := { dst := some 125, op := Op.indexAddr 22 (Operand.tmp 123) (Operand.tmp 124), type := 0, pos := "law.go:181", after := #[{ on := 11, ground := Ground.data }, { on := 12, ground := Ground.data }, { on := 10, ground := Ground.guard }], guard := some (10, true) }) (v := ?_) rfl (by kernel_rfl) (by kernel_rfl) (by kernel_rfl) (fun _ _ _ h => h) (Or.inl ⟨by rfl, ?_⟩) (by assumption) ?_
                              rotate_left
                              · (intro w hSw; (try dsimp only at hSw); obtain ⟨⟨s2, s3, s4, s5, s6, s7, s8, s9, s10⟩, _⟩ := hSw; go_simp) <;> with_reducible rfl
                              try simp only [Act.put, List.setIfInBounds_toArray, List.set_cons_zero, List.set_cons_succ]
                              refine wpAnyH_take (i := 14) (oi := { dst := some 126, op := Op.fieldAddr 32 (Operand.tmp 125) 3, type := 0, pos := "law.go:181", after := #[{ on := 13, ground := Ground.data }, { on := 10, ground := Ground.guard }], guard := some (10, true) }) (v := ?_) rfl (by kernel_rfl) (by kernel_rfl) (by kernel_rfl) (fun _ _ _ h => h) (Or.inl ⟨by rfl, ?_⟩) (by assumption) ?_
                              rotate_left
                              · (intro w hSw; (try dsimp only at hSw); obtain ⟨⟨s2, s3, s4, s5, s6, s7, s8, s9, s10⟩, _⟩ := hSw; go_simp) <;> with_reducible rfl
                              try simp only [Act.put, List.setIfInBounds_toArray, List.set_cons_zero, List.set_cons_succ]
                              refine wpAnyH_take (i := 15) (oi := { dst := some 127, op := Op.load 29 (Operand.tmp 126), type := 29, pos := "law.go:181", after := #[{ on := 14, ground := Ground.data }, { on := 10, ground := Ground.guard }], guard := some (10, true) }) (v := ?_) rfl (by kernel_rfl) (by kernel_rfl) (by kernel_rfl) (fun _ _ _ h => h) (Or.inl ⟨by rfl, ?_⟩) (by assumption) ?_
                              rotate_left
                              · (intro w hSw; (try dsimp only at hSw); obtain ⟨⟨s2, s3, s4, s5, s6, s7, s8, s9, s10⟩, _⟩ := hSw; go_simp) <;> with_reducible rfl
                              try simp only [Act.put, List.setIfInBounds_toArray, List.set_cons_zero, List.set_cons_succ]
                              refine wpAnyH_take (i := 16) (oi := { dst := some 128, op := Op.fieldAddr 38 (Operand.tmp 12) 1, type := 0, pos := "law.go:181", after := #[{ on := 10, ground := Ground.guard }], guard := some (10, true) }) (v := ?_) rfl (by kernel_rfl) (by kernel_rfl) (by kernel_rfl) (fun _ _ _ h => h) (Or.inl ⟨by rfl, ?_⟩) (by assumption) ?_
                              rotate_left
                              · (intro w hSw; (try dsimp only at hSw); obtain ⟨⟨s2, s3, s4, s5, s6, s7, s8, s9, s10⟩, _⟩ := hSw; go_simp) <;> with_reducible rfl
                              try simp only [Act.put, List.setIfInBounds_toArray, List.set_cons_zero, List.set_cons_succ]
                              refine wpAnyH_take (i := 17) (oi := { dst := some 129, op := Op.load 29 (Operand.tmp 128), type := 29, pos := "law.go:181", after := #[{ on := 16, ground := Ground.data }, { on := 10, ground := Ground.guard }], guard := some (10, true) }) (v := ?_) rfl (by kernel_rfl) (by kernel_rfl) (by kernel_rfl) (fun _ _ _ h => h) (Or.inl ⟨by rfl, ?_⟩) (by assumption) ?_
                              rotate_left
                              · (intro w hSw; (try dsimp only at hSw); obtain ⟨⟨s2, s3, s4, s5, s6, s7, s8, s9, s10⟩, _⟩ := hSw; go_simp) <;> with_reducible rfl
                              try simp only [Act.put, List.setIfInBounds_toArray, List.set_cons_zero, List.set_cons_succ]
                              refine wpAnyH_take (i := 18) (oi := { dst := some 130, op := Op.binOp BinOp.eql 29 (Operand.tmp 127) (Operand.tmp 129) 29, type := 4, pos := "law.go:181", after := #[{ on := 15, ground := Ground.data }, { on := 17, ground := Ground.data }, { on := 10, ground := Ground.guard }], guard := some (10, true) }) (v := ?_) rfl (by kernel_rfl) (by kernel_rfl) (by kernel_rfl) (fun _ _ _ h => h) (Or.inl ⟨by rfl, ?_⟩) (by assumption) ?_
                              rotate_left
                              · (intro w hSw; (try dsimp only at hSw); obtain ⟨⟨s2, s3, s4, s5, s6, s7, s8, s9, s10⟩, _⟩ := hSw; go_simp) <;> with_reducible rfl
                              try simp only [Act.put, List.setIfInBounds_toArray, List.set_cons_zero, List.set_cons_succ]
                              refine wpAnyH_take (i := 19) (oi := { dst := some 131, op := Op.pick (Operand.tmp 122) (Operand.tmp 130) (Operand.const (Value.bool false)), type := 4, pos := "law.go:181", after := #[{ on := 10, ground := Ground.data }, { on := 18, ground := Ground.data }, { on := 1, ground := Ground.guard }], guard := some (1, false) }) (v := ?_) rfl (by kernel_rfl) (by kernel_rfl) (by kernel_rfl) (fun _ _ _ h => h) (Or.inl ⟨by rfl, ?_⟩) (by assumption) ?_
                              rotate_left
                              · (intro w hSw; (try dsimp only at hSw); obtain ⟨⟨s2, s3, s4, s5, s6, s7, s8, s9, s10⟩, _⟩ := hSw; go_simp) <;> with_reducible rfl
                              try simp only [Act.put, List.setIfInBounds_toArray, List.set_cons_zero, List.set_cons_succ]
                              refine wpAnyH_take (i := 20) (oi := { dst := some 132, op := Op.move (Operand.tmp 131), type := 4, pos := "law.go:181", after := #[{ on := 19, ground := Ground.data }, { on := 10, ground := Ground.chain }, { on := 1, ground := Ground.guard }], guard := some (1, false) }) (v := ?_) rfl (by kernel_rfl) (by kernel_rfl) (by kernel_rfl) (fun _ _ _ h => h) (Or.inl ⟨by rfl, ?_⟩) (by assumption) ?_
                              rotate_left
                              · (intro w hSw; (try dsimp only at hSw); obtain ⟨⟨s2, s3, s4, s5, s6, s7, s8, s9, s10⟩, _⟩ := hSw; go_simp) <;> with_reducible rfl
                              try simp only [Act.put, List.setIfInBounds_toArray, List.set_cons_zero, List.set_cons_succ]
                              refine wpAnyH_take (i := 21) (oi := { dst := some 133, op := Op.move (Operand.tmp 8), type := 22, pos := "law.go:181", after := #[{ on := 20, ground := Ground.guard }], guard := some (20, true) }) (v := ?_) rfl (by kernel_rfl) (by kernel_rfl) (by kernel_rfl) (fun _ _ _ h => h) (Or.inl ⟨by rfl, ?_⟩) (by assumption) ?_
                              rotate_left
                              · (intro w hSw; (try dsimp only at hSw); obtain ⟨⟨s2, s3, s4, s5, s6, s7, s8, s9, s10⟩, _⟩ := hSw; go_simp) <;> with_reducible rfl
                              try simp only [Act.put, List.setIfInBounds_toArray, List.set_cons_zero, List.set_cons_succ]
                              refine wpAnyH_take (i := 22) (oi := { dst := some 134, op := Op.move (Operand.tmp 15), type := 3, pos := "law.go:181", after := #[{ on := 20, ground := Ground.guard }], guard := some (20, true) }) (v := ?_) rfl (by kernel_rfl) (by kernel_rfl) (by kernel_rfl) (fun _ _ _ h => h) (Or.inl ⟨by rfl, ?_⟩) (by assumption) ?_
                              rotate_left
                              · (intro w hSw; (try dsimp only at hSw); obtain ⟨⟨s2, s3, s4, s5, s6, s7, s8, s9, s10⟩, _⟩ := hSw; go_simp) <;> with_reducible rfl
                              try simp only [Act.put, List.setIfInBounds_toArray, List.set_cons_zero, List.set_cons_succ]
                              refine wpAnyH_take (i := 23) (oi := { dst := some 135, op := Op.indexAddr 22 (Operand.tmp 133) (Operand.tmp 134), type := 0, pos := "law.go:181", after := #[{ on := 21, ground := Ground.data }, { on := 22, ground := Ground.data }, { on := 20, ground := Ground.guard }], guard := some (20, true) }) (v := ?_) rfl (by kernel_rfl) (by kernel_rfl) (by kernel_rfl) (fun _ _ _ h => h) (Or.inl ⟨by rfl, ?_⟩) (by assumption) ?_
                              rotate_left
                              · (intro w hSw; (try dsimp only at hSw); obtain ⟨⟨s2, s3, s4, s5, s6, s7, s8, s9, s10⟩, _⟩ := hSw; go_simp) <;> with_reducible rfl
                              try simp only [Act.put, List.setIfInBounds_toArray, List.set_cons_zero, List.set_cons_succ]
                              refine wpAnyH_take (i := 24) (oi := { dst := some 136, op := Op.fieldAddr 32 (Operand.tmp 135) 4, type := 0, pos := "law.go:181", after := #[{ on := 23, ground := Ground.data }, { on := 20, ground := Ground.guard }], guard := some (20, true) }) (v := ?_) rfl (by kernel_rfl) (by kernel_rfl) (by kernel_rfl) (fun _ _ _ h => h) (Or.inl ⟨by rfl, ?_⟩) (by assumption) ?_
                              rotate_left
                              · (intro w hSw; (try dsimp only at hSw); obtain ⟨⟨s2, s3, s4, s5, s6, s7, s8, s9, s10⟩, _⟩ := hSw; go_simp) <;> with_reducible rfl
                              try simp only [Act.put, List.setIfInBounds_toArray, List.set_cons_zero, List.set_cons_succ]
                              refine wpAnyH_take (i := 25) (oi := { dst := some 137, op := Op.load 30 (Operand.tmp 136), type := 30, pos := "law.go:181", after := #[{ on := 24, ground := Ground.data }, { on := 20, ground := Ground.guard }], guard := some (20, true) }) (v := ?_) rfl (by kernel_rfl) (by kernel_rfl) (by kernel_rfl) (fun _ _ _ h => h) (Or.inl ⟨by rfl, ?_⟩) (by assumption) ?_
                              rotate_left
                              · (intro w hSw; (try dsimp only at hSw); obtain ⟨⟨s2, s3, s4, s5, s6, s7, s8, s9, s10⟩, _⟩ := hSw; go_simp) <;> with_reducible rfl
                              try simp only [Act.put, List.setIfInBounds_toArray, List.set_cons_zero, List.set_cons_succ]
                              refine wpAnyH_take (i := 26) (oi := { dst := some 138, op := Op.fieldAddr 38 (Operand.tmp 12) 2, type := 0, pos := "law.go:181", after := #[{ on := 20, ground := Ground.guard }], guard := some (20, true) }) (v := ?_) rfl (by kernel_rfl) (by kernel_rfl) (by kernel_rfl) (fun _ _ _ h => h) (Or.inl ⟨by rfl, ?_⟩) (by assumption) ?_
                              rotate_left
                              · (intro w hSw; (try dsimp only at hSw); obtain ⟨⟨s2, s3, s4, s5, s6, s7, s8, s9, s10⟩, _⟩ := hSw; go_simp) <;> with_reducible rfl
                              try simp only [Act.put, List.setIfInBounds_toArray, List.set_cons_zero, List.set_cons_succ]
                              refine wpAnyH_take (i := 27) (oi := { dst := some 139, op := Op.load 30 (Operand.tmp 138), type := 30, pos := "law.go:181", after := #[{ on := 26, ground := Ground.data }, { on := 20, ground := Ground.guard }], guard := some (20, true) }) (v := ?_) rfl (by kernel_rfl) (by kernel_rfl) (by kernel_rfl) (fun _ _ _ h => h) (Or.inl ⟨by rfl, ?_⟩) (by assumption) ?_
                              rotate_left
                              · (intro w hSw; (try dsimp only at hSw); obtain ⟨⟨s2, s3, s4, s5, s6, s7, s8, s9, s10⟩, _⟩ := hSw; go_simp) <;> with_reducible rfl
                              try simp only [Act.put, List.setIfInBounds_toArray, List.set_cons_zero, List.set_cons_succ]
                              refine wpAnyH_take (i := 28) (oi := { dst := some 140, op := Op.fieldAddr 38 (Operand.tmp 12) 3, type := 0, pos := "law.go:181", after := #[{ on := 20, ground := Ground.guard }], guard := some (20, true) }) (v := ?_) rfl (by kernel_rfl) (by kernel_rfl) (by kernel_rfl) (fun _ _ _ h => h) (Or.inl ⟨by rfl, ?_⟩) (by assumption) ?_
                              rotate_left
                              · (intro w hSw; (try dsimp only at hSw); obtain ⟨⟨s2, s3, s4, s5, s6, s7, s8, s9, s10⟩, _⟩ := hSw; go_simp) <;> with_reducible rfl
                              try simp only [Act.put, List.setIfInBounds_toArray, List.set_cons_zero, List.set_cons_succ]
                              refine wpAnyH_take (i := 29) (oi := { dst := some 141, op := Op.load 4 (Operand.tmp 140), type := 4, pos := "law.go:181", after := #[{ on := 28, ground := Ground.data }, { on := 20, ground := Ground.guard }], guard := some (20, true) }) (v := ?_) rfl (by kernel_rfl) (by kernel_rfl) (by kernel_rfl) (fun _ _ _ h => h) (Or.inl ⟨by rfl, ?_⟩) (by assumption) ?_
                              rotate_left
                              · (intro w hSw; (try dsimp only at hSw); obtain ⟨⟨s2, s3, s4, s5, s6, s7, s8, s9, s10⟩, _⟩ := hSw; go_simp) <;> with_reducible rfl
                              try simp only [Act.put, List.setIfInBounds_toArray, List.set_cons_zero, List.set_cons_succ]
                              refine wpAnyH_ready (rs := [30]) (by kernel_rfl) (by simp) ?_
                              refine AllReadyH.cons (o := { dst := some 142, op := Op.call { callee := Callee.value (Operand.func 14), args := #[Operand.tmp 137, Operand.tmp 139, Operand.tmp 141], argTypes := #[30, 30, 4] }, type := 4, pos := "law.go:181", after := #[{ on := 25, ground := Ground.data }, { on := 27, ground := Ground.data }, { on := 29, ground := Ground.data }, { on := 20, ground := Ground.chain }, { on := 20, ground := Ground.guard }], guard := some (20, true) }) rfl (fun K hK => ?_) AllReadyH.nil
                              go_simp
                              refine Calls.mono (near_any (HI.out _ hHeld.2).2.1 (HI.out _ hHeld.2).2.2 x.sp HLL.out) ?_
                              rintro _ w6 ⟨rfl, b6⟩
                              have b6' := hHeld.2.trans (b6.mono hHeld.2.size)
                              clear b6 hHeld
                              refine hK.out _ _ ⟨(HI.out _ b6').1, b6'⟩ (fun hHeld => ?_)
                              clear hK K
                              refine wpAnyH_take (i := 31) (oi := { dst := some 143, op := Op.pick (Operand.tmp 132) (Operand.tmp 142) (Operand.const (Value.bool false)), type := 4, pos := "law.go:181", after := #[{ on := 20, ground := Ground.data }, { on := 30, ground := Ground.data }, { on := 1, ground := Ground.guard }], guard := some (1, false) }) (v := ?_) rfl (by kernel_rfl) (by kernel_rfl) (by kernel_rfl) (fun _ _ _ h => h) (Or.inl ⟨by rfl, ?_⟩) (by assumption) ?_
                              rotate_left
                              · (intro w hSw; (try dsimp only at hSw); obtain ⟨⟨s2, s3, s4, s5, s6, s7, s8, s9, s10⟩, _⟩ := hSw; go_simp) <;> with_reducible rfl
                              try simp only [Act.put, List.setIfInBounds_toArray, List.set_cons_zero, List.set_cons_succ]
                              refine wpAnyH_take (i := 32) (oi := { dst := some 144, op := Op.pick (Operand.tmp 113) (Operand.const (Value.bool true)) (Operand.tmp 143), type := 4, pos := "law.go:181", after := #[{ on := 1, ground := Ground.data }, { on := 31, ground := Ground.data }], guard := none }) (v := ?_) rfl (by kernel_rfl) (by kernel_rfl) (by kernel_rfl) (fun _ _ _ h => h) (Or.inl ⟨by rfl, ?_⟩) (by assumption) ?_
                              rotate_left
                              · (intro w hSw; (try dsimp only at hSw); obtain ⟨⟨s2, s3, s4, s5, s6, s7, s8, s9, s10⟩, _⟩ := hSw; go_simp) <;> with_reducible rfl
                              try simp only [Act.put, List.setIfInBounds_toArray, List.set_cons_zero, List.set_cons_succ]
                              refine wpAnyH_take (i := 33) (oi := { dst := some 14, op := Op.assign (Operand.tmp 144), type := 4, pos := "law.go:181", after := #[{ on := 32, ground := Ground.data }, { on := 30, ground := Ground.chain }, { on := 0, ground := Ground.phase }, { on := 1, ground := Ground.phase }, { on := 2, ground := Ground.phase }, { on := 3, ground := Ground.phase }, { on := 4, ground := Ground.phase }, { on := 5, ground := Ground.phase }, { on := 6, ground := Ground.phase }, { on := 7, ground := Ground.phase }, { on := 8, ground := Ground.phase }, { on := 9, ground := Ground.phase }, { on := 10, ground := Ground.phase }, { on := 11, ground := Ground.phase }, { on := 12, ground := Ground.phase }, { on := 13, ground := Ground.phase }, { on := 14, ground := Ground.phase }, { on := 15, ground := Ground.phase }, { on := 16, ground := Ground.phase }, { on := 17, ground := Ground.phase }, { on := 18, ground := Ground.phase }, { on := 19, ground := Ground.phase }, { on := 20, ground := Ground.phase }, { on := 21, ground := Ground.phase }, { on := 22, ground := Ground.phase }, { on := 23, ground := Ground.phase }, { on := 24, ground := Ground.phase }, { on := 25, ground := Ground.phase }, { on := 26, ground := Ground.phase }, { on := 27, ground := Ground.phase }, { on := 28, ground := Ground.phase }, { on := 29, ground := Ground.phase }, { on := 30, ground := Ground.phase }, { on := 31, ground := Ground.phase }, { on := 32, ground := Ground.phase }], guard := none }) (v := ?_) rfl (by kernel_rfl) (by kernel_rfl) (by kernel_rfl) (fun _ _ _ h => h) (Or.inl ⟨by rfl, ?_⟩) (by assumption) ?_
                              rotate_left
                              · (intro w hSw; (try dsimp only at hSw); obtain ⟨⟨s2, s3, s4, s5, s6, s7, s8, s9, s10⟩, _⟩ := hSw; go_simp) <;> with_reducible rfl
                              try simp only [Act.put, List.setIfInBounds_toArray, List.set_cons_zero, List.set_cons_succ]
                              refine wpAnyH_done (by kernel_rfl) ?_ _
                              have HWn : Hid _ := hHeld.2
                              clear hHeld S0
                              go_wp2_with fail
                              go_roundw
                              case rel => exact ⟨k + 1, by omega, by simp, by rw [HT2.out], HWn.out⟩
                              case measure => simp [intOf]; omega
                            · have d7 : (o'.t == x.t) = false := by simpa using c2
                              have HT2 : Hid ((sl.take (k + 1)).any (kn x) = false) := by show _ = _; rw [HT.out, decide_eq_false c2]; simp
                              clear HT c1 c2
                              go_upto_region 31 with fail
                              refine wp_region_held_drew (S := (fun W => InL W sg k o' mb x ∧ Below w5.heap.size w5 W)) (by kernel_rfl) ?_ (fun hHeld => ?_)
                              · exact S0
                              refine wpAnyH_take (i := 0) (oi := { dst := some 112, op := Op.move (Operand.tmp 14), type := 4, pos := "law.go:181", after := #[], guard := none }) (v := ?_) rfl (by kernel_rfl) (by kernel_rfl) (by kernel_rfl) (fun _ _ _ h => h) (Or.inl ⟨by rfl, ?_⟩) (by assumption) ?_
                              rotate_left
                              · (intro w hSw; (try dsimp only at hSw); obtain ⟨⟨s2, s3, s4, s5, s6, s7, s8, s9, s10⟩, _⟩ := hSw; go_simp) <;> with_reducible rfl
                              try simp only [Act.put, List.setIfInBounds_toArray, List.set_cons_zero, List.set_cons_succ]
                              refine wpAnyH_take (i := 1) (oi := { dst := some 113, op := Op.move (Operand.tmp 112), type := 4, pos := "law.go:181", after := #[{ on := 0, ground := Ground.data }], guard := none }) (v := ?_) rfl (by kernel_rfl) (by kernel_rfl) (by kernel_rfl) (fun _ _ _ h => h) (Or.inl ⟨by rfl, ?_⟩) (by assumption) ?_
                              rotate_left
                              · (intro w hSw; (try dsimp only at hSw); obtain ⟨⟨s2, s3, s4, s5, s6, s7, s8, s9, s10⟩, _⟩ := hSw; go_simp) <;> with_reducible rfl
                              try simp only [Act.put, List.setIfInBounds_toArray, List.set_cons_zero, List.set_cons_succ]
                              refine wpAnyH_take (i := 2) (oi := { dst := some 114, op := Op.move (Operand.tmp 8), type := 22, pos := "law.go:181", after := #[{ on := 1, ground := Ground.guard }], guard := some (1, false) }) (v := ?_) rfl (by kernel_rfl) (by kernel_rfl) (by kernel_rfl) (fun _ _ _ h => h) (Or.inl ⟨by rfl, ?_⟩) (by assumption) ?_
                              rotate_left
                              · (intro w hSw; (try dsimp only at hSw); obtain ⟨⟨s2, s3, s4, s5, s6, s7, s8, s9, s10⟩, _⟩ := hSw; go_simp) <;> with_reducible rfl
                              try simp only [Act.put, List.setIfInBounds_toArray, List.set_cons_zero, List.set_cons_succ]
                              refine wpAnyH_take (i := 3) (oi := { dst := some 115, op := Op.move (Operand.tmp 15), type := 3, pos := "law.go:181", after := #[{ on := 1, ground := Ground.guard }], guard := some (1, false) }) (v := ?_) rfl (by kernel_rfl) (by kernel_rfl) (by kernel_rfl) (fun _ _ _ h => h) (Or.inl ⟨by rfl, ?_⟩) (by assumption) ?_
                              rotate_left
                              · (intro w hSw; (try dsimp only at hSw); obtain ⟨⟨s2, s3, s4, s5, s6, s7, s8, s9, s10⟩, _⟩ := hSw; go_simp) <;> with_reducible rfl
                              try simp only [Act.put, List.setIfInBounds_toArray, List.set_cons_zero, List.set_cons_succ]
                              refine wpAnyH_take (i := 4) (oi := { dst := some 116, op := Op.indexAddr 22 (Operand.tmp 114) (Operand.tmp 115), type := 0, pos := "law.go:181", after := #[{ on := 2, ground := Ground.data }, { on := 3, ground := Ground.data }, { on := 1, ground := Ground.guard }], guard := some (1, false) }) (v := ?_) rfl (by kernel_rfl) (by kernel_rfl) (by kernel_rfl) (fun _ _ _ h => h) (Or.inl ⟨by rfl, ?_⟩) (by assumption) ?_
                              rotate_left
                              · (intro w hSw; (try dsimp only at hSw); obtain ⟨⟨s2, s3, s4, s5, s6, s7, s8, s9, s10⟩, _⟩ := hSw; go_simp) <;> with_reducible rfl
                              try simp only [Act.put, List.setIfInBounds_toArray, List.set_cons_zero, List.set_cons_succ]
                              refine wpAnyH_take (i := 5) (oi := { dst := some 117, op := Op.fieldAddr 32 (Operand.tmp 116) 2, type := 0, pos := "law.go:181", after := #[{ on := 4, ground := Ground.data }, { on := 1, ground := Ground.guard }], guard := some (1, false) }) (v := ?_) rfl (by kernel_rfl) (by kernel_rfl) (by kernel_rfl) (fun _ _ _ h => h) (Or.inl ⟨by rfl, ?_⟩) (by assumption) ?_
                              rotate_left
                              · (intro w hSw; (try dsimp only at hSw); obtain ⟨⟨s2, s3, s4, s5, s6, s7, s8, s9, s10⟩, _⟩ := hSw; go_simp) <;> with_reducible rfl
                              try simp only [Act.put, List.setIfInBounds_toArray, List.set_cons_zero, List.set_cons_succ]
                              refine wpAnyH_take (i := 6) (oi := { dst := some 118, op := Op.load 29 (Operand.tmp 117), type := 29, pos := "law.go:181", after := #[{ on := 5, ground := Ground.data }, { on := 1, ground := Ground.guard }], guard := some (1, false) }) (v := ?_) rfl (by kernel_rfl) (by kernel_rfl) (by kernel_rfl) (fun _ _ _ h => h) (Or.inl ⟨by rfl, ?_⟩) (by assumption) ?_
                              rotate_left
                              · (intro w hSw; (try dsimp only at hSw); obtain ⟨⟨s2, s3, s4, s5, s6, s7, s8, s9, s10⟩, _⟩ := hSw; go_simp) <;> with_reducible rfl
                              try simp only [Act.put, List.setIfInBounds_toArray, List.set_cons_zero, List.set_cons_succ]
                              refine wpAnyH_take (i := 7) (oi := { dst := some 119, op := Op.fieldAddr 38 (Operand.tmp 12) 0, type := 0, pos := "law.go:181", after := #[{ on := 1, ground := Ground.guard }], guard := some (1, false) }) (v := ?_) rfl (by kernel_rfl) (by kernel_rfl) (by kernel_rfl) (fun _ _ _ h => h) (Or.inl ⟨by rfl, ?_⟩) (by assumption) ?_
                              rotate_left
                              · (intro w hSw; (try dsimp only at hSw); obtain ⟨⟨s2, s3, s4, s5, s6, s7, s8, s9, s10⟩, _⟩ := hSw; go_simp) <;> with_reducible rfl
                              try simp only [Act.put, List.setIfInBounds_toArray, List.set_cons_zero, List.set_cons_succ]
                              refine wpAnyH_take (i := 8) (oi := { dst := some 120, op := Op.load 29 (Operand.tmp 119), type := 29, pos := "law.go:181", after := #[{ on := 7, ground := Ground.data }, { on := 1, ground := Ground.guard }], guard := some (1, false) }) (v := ?_) rfl (by kernel_rfl) (by kernel_rfl) (by kernel_rfl) (fun _ _ _ h => h) (Or.inl ⟨by rfl, ?_⟩) (by assumption) ?_
                              rotate_left
                              · (intro w hSw; (try dsimp only at hSw); obtain ⟨⟨s2, s3, s4, s5, s6, s7, s8, s9, s10⟩, _⟩ := hSw; go_simp) <;> with_reducible rfl
                              try simp only [Act.put, List.setIfInBounds_toArray, List.set_cons_zero, List.set_cons_succ]
                              refine wpAnyH_take (i := 9) (oi := { dst := some 121, op := Op.binOp BinOp.eql 29 (Operand.tmp 118) (Operand.tmp 120) 29, type := 4, pos := "law.go:181", after := #[{ on := 6, ground := Ground.data }, { on := 8, ground := Ground.data }, { on := 1, ground := Ground.guard }], guard := some (1, false) }) (v := ?_) rfl (by kernel_rfl) (by kernel_rfl) (by kernel_rfl) (fun _ _ _ h => h) (Or.inl ⟨by rfl, ?_⟩) (by assumption) ?_
                              rotate_left
                              · (intro w hSw; (try dsimp only at hSw); obtain ⟨⟨s2, s3, s4, s5, s6, s7, s8, s9, s10⟩, _⟩ := hSw; go_simp) <;> with_reducible rfl
                              try simp only [Act.put, List.setIfInBounds_toArray, List.set_cons_zero, List.set_cons_succ]
                              refine wpAnyH_take (i := 10) (oi := { dst := some 122, op := Op.move (Operand.tmp 121), type := 4, pos := "law.go:181", after := #[{ on := 9, ground := Ground.data }, { on := 1, ground := Ground.chain }, { on := 1, ground := Ground.guard }], guard := some (1, false) }) (v := ?_) rfl (by kernel_rfl) (by kernel_rfl) (by kernel_rfl) (fun _ _ _ h => h) (Or.inl ⟨by rfl, ?_⟩) (by assumption) ?_
                              rotate_left
                              · (intro w hSw; (try dsimp only at hSw); obtain ⟨⟨s2, s3, s4, s5, s6, s7, s8, s9, s10⟩, _⟩ := hSw; go_simp) <;> with_reducible rfl
                              try simp only [Act.put, List.setIfInBounds_toArray, List.set_cons_zero, List.set_cons_succ]
                              refine wpAnyH_take (i := 11) (oi := { dst := some 123, op := Op.move (Operand.tmp 8), type := 22, pos := "law.go:181", after := #[{ on := 10, ground := Ground.guard }], guard := some (10, true) }) (v := ?_) rfl (by kernel_rfl) (by kernel_rfl) (by kernel_rfl) (fun _ _ _ h => h) (Or.inl ⟨by rfl, ?_⟩) (by assumption) ?_
                              rotate_left
                              · (intro w hSw; (try dsimp only at hSw); obtain ⟨⟨s2, s3, s4, s5, s6, s7, s8, s9, s10⟩, _⟩ := hSw; go_simp) <;> with_reducible rfl
                              try simp only [Act.put, List.setIfInBounds_toArray, List.set_cons_zero, List.set_cons_succ]
                              refine wpAnyH_take (i := 12) (oi := { dst := some 124, op := Op.move (Operand.tmp 15), type := 3, pos := "law.go:181", after := #[{ on := 10, ground := Ground.guard }], guard := some (10, true) }) (v := ?_) rfl (by kernel_rfl) (by kernel_rfl) (by kernel_rfl) (fun _ _ _ h => h) (Or.inl ⟨by rfl, ?_⟩) (by assumption) ?_
                              rotate_left
                              · (intro w hSw; (try dsimp only at hSw); obtain ⟨⟨s2, s3, s4, s5, s6, s7, s8, s9, s10⟩, _⟩ := hSw; go_simp) <;> with_reducible rfl
                              try simp only [Act.put, List.setIfInBounds_toArray, List.set_cons_zero, List.set_cons_succ]
                              refine wpAnyH_take (i := 13) (oi := { dst := some 125, op := Op.indexAddr 22 (Operand.tmp 123) (Operand.tmp 124), type := 0, pos := "law.go:181", after := #[{ on := 11, ground := Ground.data }, { on := 12, ground := Ground.data }, { on := 10, ground := Ground.guard }], guard := some (10, true) }) (v := ?_) rfl (by kernel_rfl) (by kernel_rfl) (by kernel_rfl) (fun _ _ _ h => h) (Or.inl ⟨by rfl, ?_⟩) (by assumption) ?_
                              rotate_left
                              · (intro w hSw; (try dsimp only at hSw); obtain ⟨⟨s2, s3, s4, s5, s6, s7, s8, s9, s10⟩, _⟩ := hSw; go_simp) <;> with_reducible rfl
                              try simp only [Act.put, List.setIfInBounds_toArray, List.set_cons_zero, List.set_cons_succ]
                              refine wpAnyH_take (i := 14) (oi := { dst := some 126, op := Op.fieldAddr 32 (Operand.tmp 125) 3, type := 0, pos := "law.go:181", after := #[{ on := 13, ground := Ground.data }, { on := 10, ground := Ground.guard }], guard := some (10, true) }) (v := ?_) rfl (by kernel_rfl) (by kernel_rfl) (by kernel_rfl) (fun _ _ _ h => h) (Or.inl ⟨by rfl, ?_⟩) (by assumption) ?_
                              rotate_left
                              · (intro w hSw; (try dsimp only at hSw); obtain ⟨⟨s2, s3, s4, s5, s6, s7, s8, s9, s10⟩, _⟩ := hSw; go_simp) <;> with_reducible rfl
                              try simp only [Act.put, List.setIfInBounds_toArray, List.set_cons_zero, List.set_cons_succ]
                              refine wpAnyH_take (i := 15) (oi := { dst := some 127, op := Op.load 29 (Operand.tmp 126), type := 29, pos := "law.go:181", after := #[{ on := 14, ground := Ground.data }, { on := 10, ground := Ground.guard }], guard := some (10, true) }) (v := ?_) rfl (by kernel_rfl) (by kernel_rfl) (by kernel_rfl) (fun _ _ _ h => h) (Or.inl ⟨by rfl, ?_⟩) (by assumption) ?_
                              rotate_left
                              · (intro w hSw; (try dsimp only at hSw); obtain ⟨⟨s2, s3, s4, s5, s6, s7, s8, s9, s10⟩, _⟩ := hSw; go_simp) <;> with_reducible rfl
                              try simp only [Act.put, List.setIfInBounds_toArray, List.set_cons_zero, List.set_cons_succ]
                              refine wpAnyH_take (i := 16) (oi := { dst := some 128, op := Op.fieldAddr 38 (Operand.tmp 12) 1, type := 0, pos := "law.go:181", after := #[{ on := 10, ground := Ground.guard }], guard := some (10, true) }) (v := ?_) rfl (by kernel_rfl) (by kernel_rfl) (by kernel_rfl) (fun _ _ _ h => h) (Or.inl ⟨by rfl, ?_⟩) (by assumption) ?_
                              rotate_left
                              · (intro w hSw; (try dsimp only at hSw); obtain ⟨⟨s2, s3, s4, s5, s6, s7, s8, s9, s10⟩, _⟩ := hSw; go_simp) <;> with_reducible rfl
                              try simp only [Act.put, List.setIfInBounds_toArray, List.set_cons_zero, List.set_cons_succ]
                              refine wpAnyH_take (i := 17) (oi := { dst := some 129, op := Op.load 29 (Operand.tmp 128), type := 29, pos := "law.go:181", after := #[{ on := 16, ground := Ground.data }, { on := 10, ground := Ground.guard }], guard := some (10, true) }) (v := ?_) rfl (by kernel_rfl) (by kernel_rfl) (by kernel_rfl) (fun _ _ _ h => h) (Or.inl ⟨by rfl, ?_⟩) (by assumption) ?_
                              rotate_left
                              · (intro w hSw; (try dsimp only at hSw); obtain ⟨⟨s2, s3, s4, s5, s6, s7, s8, s9, s10⟩, _⟩ := hSw; go_simp) <;> with_reducible rfl
                              try simp only [Act.put, List.setIfInBounds_toArray, List.set_cons_zero, List.set_cons_succ]
                              refine wpAnyH_take (i := 18) (oi := { dst := some 130, op := Op.binOp BinOp.eql 29 (Operand.tmp 127) (Operand.tmp 129) 29, type := 4, pos := "law.go:181", after := #[{ on := 15, ground := Ground.data }, { on := 17, ground := Ground.data }, { on := 10, ground := Ground.guard }], guard := some (10, true) }) (v := ?_) rfl (by kernel_rfl) (by kernel_rfl) (by kernel_rfl) (fun _ _ _ h => h) (Or.inl ⟨by rfl, ?_⟩) (by assumption) ?_
                              rotate_left
                              · (intro w hSw; (try dsimp only at hSw); obtain ⟨⟨s2, s3, s4, s5, s6, s7, s8, s9, s10⟩, _⟩ := hSw; go_simp) <;> with_reducible rfl
                              try simp only [Act.put, List.setIfInBounds_toArray, List.set_cons_zero, List.set_cons_succ]
                              refine wpAnyH_take (i := 19) (oi := { dst := some 131, op := Op.pick (Operand.tmp 122) (Operand.tmp 130) (Operand.const (Value.bool false)), type := 4, pos := "law.go:181", after := #[{ on := 10, ground := Ground.data }, { on := 18, ground := Ground.data }, { on := 1, ground := Ground.guard }], guard := some (1, false) }) (v := ?_) rfl (by kernel_rfl) (by kernel_rfl) (by kernel_rfl) (fun _ _ _ h => h) (Or.inl ⟨by rfl, ?_⟩) (by assumption) ?_
                              rotate_left
                              · (intro w hSw; (try dsimp only at hSw); obtain ⟨⟨s2, s3, s4, s5, s6, s7, s8, s9, s10⟩, _⟩ := hSw; go_simp) <;> with_reducible rfl
                              try simp only [Act.put, List.setIfInBounds_toArray, List.set_cons_zero, List.set_cons_succ]
                              refine wpAnyH_take (i := 20) (oi := { dst := some 132, op := Op.move (Operand.tmp 131), type := 4, pos := "law.go:181", after := #[{ on := 19, ground := Ground.data }, { on := 10, ground := Ground.chain }, { on := 1, ground := Ground.guard }], guard := some (1, false) }) (v := ?_) rfl (by kernel_rfl) (by kernel_rfl) (by kernel_rfl) (fun _ _ _ h => h) (Or.inl ⟨by rfl, ?_⟩) (by assumption) ?_
                              rotate_left
                              · (intro w hSw; (try dsimp only at hSw); obtain ⟨⟨s2, s3, s4, s5, s6, s7, s8, s9, s10⟩, _⟩ := hSw; go_simp) <;> with_reducible rfl
                              try simp only [Act.put, List.setIfInBounds_toArray, List.set_cons_zero, List.set_cons_succ]
                              refine wpAnyH_take (i := 21) (oi := { dst := some 133, op := Op.move (Operand.tmp 8), type := 22, pos := "law.go:181", after := #[{ on := 20, ground := Ground.guard }], guard := some (20, true) }) (v := undef) rfl (by kernel_rfl) (by kernel_rfl) (by kernel_rfl) (fun _ _ _ h => h) (Or.inr ⟨by rfl, rfl⟩) (by assumption) ?_
                              try simp only [Act.put, List.setIfInBounds_toArray, List.set_cons_zero, List.set_cons_succ]
                              refine wpAnyH_take (i := 22) (oi := { dst := some 134, op := Op.move (Operand.tmp 15), type := 3, pos := "law.go:181", after := #[{ on := 20, ground := Ground.guard }], guard := some (20, true) }) (v := undef) rfl (by kernel_rfl) (by kernel_rfl) (by kernel_rfl) (fun _ _ _ h => h) (Or.inr ⟨by rfl, rfl⟩) (by assumption) ?_
                              try simp only [Act.put, List.setIfInBounds_toArray, List.set_cons_zero, List.set_cons_succ]
                              refine wpAnyH_take (i := 23) (oi := { dst := some 135, op := Op.indexAddr 22 (Operand.tmp 133) (Operand.tmp 134), type := 0, pos := "law.go:181", after := #[{ on := 21, ground := Ground.data }, { on := 22, ground := Ground.data }, { on := 20, ground := Ground.guard }], guard := some (20, true) }) (v := undef) rfl (by kernel_rfl) (by kernel_rfl) (by kernel_rfl) (fun _ _ _ h => h) (Or.inr ⟨by rfl, rfl⟩) (by assumption) ?_
                              try simp only [Act.put, List.setIfInBounds_toArray, List.set_cons_zero, List.set_cons_succ]
                              refine wpAnyH_take (i := 24) (oi := { dst := some 136, op := Op.fieldAddr 32 (Operand.tmp 135) 4, type := 0, pos := "law.go:181", after := #[{ on := 23, ground := Ground.data }, { on := 20, ground := Ground.guard }], guard := some (20, true) }) (v := undef) rfl (by kernel_rfl) (by kernel_rfl) (by kernel_rfl) (fun _ _ _ h => h) (Or.inr ⟨by rfl, rfl⟩) (by assumption) ?_
                              try simp only [Act.put, List.setIfInBounds_toArray, List.set_cons_zero, List.set_cons_succ]
                              refine wpAnyH_take (i := 25) (oi := { dst := some 137, op := Op.load 30 (Operand.tmp 136), type := 30, pos := "law.go:181", after := #[{ on := 24, ground := Ground.data }, { on := 20, ground := Ground.guard }], guard := some (20, true) }) (v := undef) rfl (by kernel_rfl) (by kernel_rfl) (by kernel_rfl) (fun _ _ _ h => h) (Or.inr ⟨by rfl, rfl⟩) (by assumption) ?_
                              try simp only [Act.put, List.setIfInBounds_toArray, List.set_cons_zero, List.set_cons_succ]
                              refine wpAnyH_take (i := 26) (oi := { dst := some 138, op := Op.fieldAddr 38 (Operand.tmp 12) 2, type := 0, pos := "law.go:181", after := #[{ on := 20, ground := Ground.guard }], guard := some (20, true) }) (v := undef) rfl (by kernel_rfl) (by kernel_rfl) (by kernel_rfl) (fun _ _ _ h => h) (Or.inr ⟨by rfl, rfl⟩) (by assumption) ?_
                              try simp only [Act.put, List.setIfInBounds_toArray, List.set_cons_zero, List.set_cons_succ]
                              refine wpAnyH_take (i := 27) (oi := { dst := some 139, op := Op.load 30 (Operand.tmp 138), type := 30, pos := "law.go:181", after := #[{ on := 26, ground := Ground.data }, { on := 20, ground := Ground.guard }], guard := some (20, true) }) (v := undef) rfl (by kernel_rfl) (by kernel_rfl) (by kernel_rfl) (fun _ _ _ h => h) (Or.inr ⟨by rfl, rfl⟩) (by assumption) ?_
                              try simp only [Act.put, List.setIfInBounds_toArray, List.set_cons_zero, List.set_cons_succ]
                              refine wpAnyH_take (i := 28) (oi := { dst := some 140, op := Op.fieldAddr 38 (Operand.tmp 12) 3, type := 0, pos := "law.go:181", after := #[{ on := 20, ground := Ground.guard }], guard := some (20, true) }) (v := undef) rfl (by kernel_rfl) (by kernel_rfl) (by kernel_rfl) (fun _ _ _ h => h) (Or.inr ⟨by rfl, rfl⟩) (by assumption) ?_
                              try simp only [Act.put, List.setIfInBounds_toArray, List.set_cons_zero, List.set_cons_succ]
                              refine wpAnyH_take (i := 29) (oi := { dst := some 141, op := Op.load 4 (Operand.tmp 140), type := 4, pos := "law.go:181", after := #[{ on := 28, ground := Ground.data }, { on := 20, ground := Ground.guard }], guard := some (20, true) }) (v := undef) rfl (by kernel_rfl) (by kernel_rfl) (by kernel_rfl) (fun _ _ _ h => h) (Or.inr ⟨by rfl, rfl⟩) (by assumption) ?_
                              try simp only [Act.put, List.setIfInBounds_toArray, List.set_cons_zero, List.set_cons_succ]
                              refine wpAnyH_ready (rs := [30]) (by kernel_rfl) (by simp) ?_
                              refine AllReadyH.cons (o := { dst := some 142, op := Op.call { callee := Callee.value (Operand.func 14), args := #[Operand.tmp 137, Operand.tmp 139, Operand.tmp 141], argTypes := #[30, 30, 4] }, type := 4, pos := "law.go:181", after := #[{ on := 25, ground := Ground.data }, { on := 27, ground := Ground.data }, { on := 29, ground := Ground.data }, { on := 20, ground := Ground.chain }, { on := 20, ground := Ground.guard }], guard := some (20, true) }) rfl (fun K hK => ?_) AllReadyH.nil
                              go_simp
                              refine hK.out _ _ (by assumption) (fun _ => ?_)
                              clear hK K
                              refine wpAnyH_take (i := 31) (oi := { dst := some 143, op := Op.pick (Operand.tmp 132) (Operand.tmp 142) (Operand.const (Value.bool false)), type := 4, pos := "law.go:181", after := #[{ on := 20, ground := Ground.data }, { on := 30, ground := Ground.data }, { on := 1, ground := Ground.guard }], guard := some (1, false) }) (v := ?_) rfl (by kernel_rfl) (by kernel_rfl) (by kernel_rfl) (fun _ _ _ h => h) (Or.inl ⟨by rfl, ?_⟩) (by assumption) ?_
                              rotate_left
                              · (intro w hSw; (try dsimp only at hSw); obtain ⟨⟨s2, s3, s4, s5, s6, s7, s8, s9, s10⟩, _⟩ := hSw; go_simp) <;> with_reducible rfl
                              try simp only [Act.put, List.setIfInBounds_toArray, List.set_cons_zero, List.set_cons_succ]
                              refine wpAnyH_take (i := 32) (oi := { dst := some 144, op := Op.pick (Operand.tmp 113) (Operand.const (Value.bool true)) (Operand.tmp 143), type := 4, pos := "law.go:181", after := #[{ on := 1, ground := Ground.data }, { on := 31, ground := Ground.data }], guard := none }) (v := ?_) rfl (by kernel_rfl) (by kernel_rfl) (by kernel_rfl) (fun _ _ _ h => h) (Or.inl ⟨by rfl, ?_⟩) (by assumption) ?_
                              rotate_left
                              · (intro w hSw; (try dsimp only at hSw); obtain ⟨⟨s2, s3, s4, s5, s6, s7, s8, s9, s10⟩, _⟩ := hSw; go_simp) <;> with_reducible rfl
                              try simp only [Act.put, List.setIfInBounds_toArray, List.set_cons_zero, List.set_cons_succ]
                              refine wpAnyH_take (i := 33) (oi := { dst := some 14, op := Op.assign (Operand.tmp 144), type := 4, pos := "law.go:181", after := #[{ on := 32, ground := Ground.data }, { on := 30, ground := Ground.chain }, { on := 0, ground := Ground.phase }, { on := 1, ground := Ground.phase }, { on := 2, ground := Ground.phase }, { on := 3, ground := Ground.phase }, { on := 4, ground := Ground.phase }, { on := 5, ground := Ground.phase }, { on := 6, ground := Ground.phase }, { on := 7, ground := Ground.phase }, { on := 8, ground := Ground.phase }, { on := 9, ground := Ground.phase }, { on := 10, ground := Ground.phase }, { on := 11, ground := Ground.phase }, { on := 12, ground := Ground.phase }, { on := 13, ground := Ground.phase }, { on := 14, ground := Ground.phase }, { on := 15, ground := Ground.phase }, { on := 16, ground := Ground.phase }, { on := 17, ground := Ground.phase }, { on := 18, ground := Ground.phase }, { on := 19, ground := Ground.phase }, { on := 20, ground := Ground.phase }, { on := 21, ground := Ground.phase }, { on := 22, ground := Ground.phase }, { on := 23, ground := Ground.phase }, { on := 24, ground := Ground.phase }, { on := 25, ground := Ground.phase }, { on := 26, ground := Ground.phase }, { on := 27, ground := Ground.phase }, { on := 28, ground := Ground.phase }, { on := 29, ground := Ground.phase }, { on := 30, ground := Ground.phase }, { on := 31, ground := Ground.phase }, { on := 32, ground := Ground.phase }], guard := none }) (v := ?_) rfl (by kernel_rfl) (by kernel_rfl) (by kernel_rfl) (fun _ _ _ h => h) (Or.inl ⟨by rfl, ?_⟩) (by assumption) ?_
                              rotate_left
                              · (intro w hSw; (try dsimp only at hSw); obtain ⟨⟨s2, s3, s4, s5, s6, s7, s8, s9, s10⟩, _⟩ := hSw; go_simp) <;> with_reducible rfl
                              try simp only [Act.put, List.setIfInBounds_toArray, List.set_cons_zero, List.set_cons_succ]
                              refine wpAnyH_done (by kernel_rfl) ?_ _
                              have HWn : Hid _ := hHeld.2
                              clear hHeld S0
                              go_wp2_with fail
                              go_roundw
                              case rel => exact ⟨k + 1, by omega, by simp, by rw [HT2.out], HWn.out⟩
                              case measure => simp [intOf]; omega
                          · have d6 : (o'.f == x.f) = false := by simpa using c1
                            have HT2 : Hid ((sl.take (k + 1)).any (kn x) = false) := by show _ = _; rw [HT.out, decide_eq_false c1]; simp
                            clear HT c1
                            go_upto_region 31 with fail
                            refine wp_region_held_drew (S := (fun W => InL W sg k o' mb x ∧ Below w5.heap.size w5 W)) (by kernel_rfl) ?_ (fun hHeld => ?_)
                            · exact S0
                            refine wpAnyH_take (i := 0) (oi := { dst := some 112, op := Op.move (Operand.tmp 14), type := 4, pos := "law.go:181", after := #[], guard := none }) (v := ?_) rfl (by kernel_rfl) (by kernel_rfl) (by kernel_rfl) (fun _ _ _ h => h) (Or.inl ⟨by rfl, ?_⟩) (by assumption) ?_
                            rotate_left
                            · (intro w hSw; (try dsimp only at hSw); obtain ⟨⟨s2, s3, s4, s5, s6, s7, s8, s9, s10⟩, _⟩ := hSw; go_simp) <;> with_reducible rfl
                            try simp only [Act.put, List.setIfInBounds_toArray, List.set_cons_zero, List.set_cons_succ]
                            refine wpAnyH_take (i := 1) (oi := { dst := some 113, op := Op.move (Operand.tmp 112), type := 4, pos := "law.go:181", after := #[{ on := 0, ground := Ground.data }], guard := none }) (v := ?_) rfl (by kernel_rfl) (by kernel_rfl) (by kernel_rfl) (fun _ _ _ h => h) (Or.inl ⟨by rfl, ?_⟩) (by assumption) ?_
                            rotate_left
                            · (intro w hSw; (try dsimp only at hSw); obtain ⟨⟨s2, s3, s4, s5, s6, s7, s8, s9, s10⟩, _⟩ := hSw; go_simp) <;> with_reducible rfl
                            try simp only [Act.put, List.setIfInBounds_toArray, List.set_cons_zero, List.set_cons_succ]
                            refine wpAnyH_take (i := 2) (oi := { dst := some 114, op := Op.move (Operand.tmp 8), type := 22, pos := "law.go:181", after := #[{ on := 1, ground := Ground.guard }], guard := some (1, false) }) (v := ?_) rfl (by kernel_rfl) (by kernel_rfl) (by kernel_rfl) (fun _ _ _ h => h) (Or.inl ⟨by rfl, ?_⟩) (by assumption) ?_
                            rotate_left
                            · (intro w hSw; (try dsimp only at hSw); obtain ⟨⟨s2, s3, s4, s5, s6, s7, s8, s9, s10⟩, _⟩ := hSw; go_simp) <;> with_reducible rfl
                            try simp only [Act.put, List.setIfInBounds_toArray, List.set_cons_zero, List.set_cons_succ]
                            refine wpAnyH_take (i := 3) (oi := { dst := some 115, op := Op.move (Operand.tmp 15), type := 3, pos := "law.go:181", after := #[{ on := 1, ground := Ground.guard }], guard := some (1, false) }) (v := ?_) rfl (by kernel_rfl) (by kernel_rfl) (by kernel_rfl) (fun _ _ _ h => h) (Or.inl ⟨by rfl, ?_⟩) (by assumption) ?_
                            rotate_left
                            · (intro w hSw; (try dsimp only at hSw); obtain ⟨⟨s2, s3, s4, s5, s6, s7, s8, s9, s10⟩, _⟩ := hSw; go_simp) <;> with_reducible rfl
                            try simp only [Act.put, List.setIfInBounds_toArray, List.set_cons_zero, List.set_cons_succ]
                            refine wpAnyH_take (i := 4) (oi := { dst := some 116, op := Op.indexAddr 22 (Operand.tmp 114) (Operand.tmp 115), type := 0, pos := "law.go:181", after := #[{ on := 2, ground := Ground.data }, { on := 3, ground := Ground.data }, { on := 1, ground := Ground.guard }], guard := some (1, false) }) (v := ?_) rfl (by kernel_rfl) (by kernel_rfl) (by kernel_rfl) (fun _ _ _ h => h) (Or.inl ⟨by rfl, ?_⟩) (by assumption) ?_
                            rotate_left
                            · (intro w hSw; (try dsimp only at hSw); obtain ⟨⟨s2, s3, s4, s5, s6, s7, s8, s9, s10⟩, _⟩ := hSw; go_simp) <;> with_reducible rfl
                            try simp only [Act.put, List.setIfInBounds_toArray, List.set_cons_zero, List.set_cons_succ]
                            refine wpAnyH_take (i := 5) (oi := { dst := some 117, op := Op.fieldAddr 32 (Operand.tmp 116) 2, type := 0, pos := "law.go:181", after := #[{ on := 4, ground := Ground.data }, { on := 1, ground := Ground.guard }], guard := some (1, false) }) (v := ?_) rfl (by kernel_rfl) (by kernel_rfl) (by kernel_rfl) (fun _ _ _ h => h) (Or.inl ⟨by rfl, ?_⟩) (by assumption) ?_
                            rotate_left
                            · (intro w hSw; (try dsimp only at hSw); obtain ⟨⟨s2, s3, s4, s5, s6, s7, s8, s9, s10⟩, _⟩ := hSw; go_simp) <;> with_reducible rfl
                            try simp only [Act.put, List.setIfInBounds_toArray, List.set_cons_zero, List.set_cons_succ]
                            refine wpAnyH_take (i := 6) (oi := { dst := some 118, op := Op.load 29 (Operand.tmp 117), type := 29, pos := "law.go:181", after := #[{ on := 5, ground := Ground.data }, { on := 1, ground := Ground.guard }], guard := some (1, false) }) (v := ?_) rfl (by kernel_rfl) (by kernel_rfl) (by kernel_rfl) (fun _ _ _ h => h) (Or.inl ⟨by rfl, ?_⟩) (by assumption) ?_
                            rotate_left
                            · (intro w hSw; (try dsimp only at hSw); obtain ⟨⟨s2, s3, s4, s5, s6, s7, s8, s9, s10⟩, _⟩ := hSw; go_simp) <;> with_reducible rfl
                            try simp only [Act.put, List.setIfInBounds_toArray, List.set_cons_zero, List.set_cons_succ]
                            refine wpAnyH_take (i := 7) (oi := { dst := some 119, op := Op.fieldAddr 38 (Operand.tmp 12) 0, type := 0, pos := "law.go:181", after := #[{ on := 1, ground := Ground.guard }], guard := some (1, false) }) (v := ?_) rfl (by kernel_rfl) (by kernel_rfl) (by kernel_rfl) (fun _ _ _ h => h) (Or.inl ⟨by rfl, ?_⟩) (by assumption) ?_
                            rotate_left
                            · (intro w hSw; (try dsimp only at hSw); obtain ⟨⟨s2, s3, s4, s5, s6, s7, s8, s9, s10⟩, _⟩ := hSw; go_simp) <;> with_reducible rfl
                            try simp only [Act.put, List.setIfInBounds_toArray, List.set_cons_zero, List.set_cons_succ]
                            refine wpAnyH_take (i := 8) (oi := { dst := some 120, op := Op.load 29 (Operand.tmp 119), type := 29, pos := "law.go:181", after := #[{ on := 7, ground := Ground.data }, { on := 1, ground := Ground.guard }], guard := some (1, false) }) (v := ?_) rfl (by kernel_rfl) (by kernel_rfl) (by kernel_rfl) (fun _ _ _ h => h) (Or.inl ⟨by rfl, ?_⟩) (by assumption) ?_
                            rotate_left
                            · (intro w hSw; (try dsimp only at hSw); obtain ⟨⟨s2, s3, s4, s5, s6, s7, s8, s9, s10⟩, _⟩ := hSw; go_simp) <;> with_reducible rfl
                            try simp only [Act.put, List.setIfInBounds_toArray, List.set_cons_zero, List.set_cons_succ]
                            refine wpAnyH_take (i := 9) (oi := { dst := some 121, op := Op.binOp BinOp.eql 29 (Operand.tmp 118) (Operand.tmp 120) 29, type := 4, pos := "law.go:181", after := #[{ on := 6, ground := Ground.data }, { on := 8, ground := Ground.data }, { on := 1, ground := Ground.guard }], guard := some (1, false) }) (v := ?_) rfl (by kernel_rfl) (by kernel_rfl) (by kernel_rfl) (fun _ _ _ h => h) (Or.inl ⟨by rfl, ?_⟩) (by assumption) ?_
                            rotate_left
                            · (intro w hSw; (try dsimp only at hSw); obtain ⟨⟨s2, s3, s4, s5, s6, s7, s8, s9, s10⟩, _⟩ := hSw; go_simp) <;> with_reducible rfl
                            try simp only [Act.put, List.setIfInBounds_toArray, List.set_cons_zero, List.set_cons_succ]
                            refine wpAnyH_take (i := 10) (oi := { dst := some 122, op := Op.move (Operand.tmp 121), type := 4, pos := "law.go:181", after := #[{ on := 9, ground := Ground.data }, { on := 1, ground := Ground.chain }, { on := 1, ground := Ground.guard }], guard := some (1, false) }) (v := ?_) rfl (by kernel_rfl) (by kernel_rfl) (by kernel_rfl) (fun _ _ _ h => h) (Or.inl ⟨by rfl, ?_⟩) (by assumption) ?_
                            rotate_left
                            · (intro w hSw; (try dsimp only at hSw); obtain ⟨⟨s2, s3, s4, s5, s6, s7, s8, s9, s10⟩, _⟩ := hSw; go_simp) <;> with_reducible rfl
                            try simp only [Act.put, List.setIfInBounds_toArray, List.set_cons_zero, List.set_cons_succ]
                            refine wpAnyH_take (i := 11) (oi := { dst := some 123, op := Op.move (Operand.tmp 8), type := 22, pos := "law.go:181", after := #[{ on := 10, ground := Ground.guard }], guard := some (10, true) }) (v := undef) rfl (by kernel_rfl) (by kernel_rfl) (by kernel_rfl) (fun _ _ _ h => h) (Or.inr ⟨by rfl, rfl⟩) (by assumption) ?_
                            try simp only [Act.put, List.setIfInBounds_toArray, List.set_cons_zero, List.set_cons_succ]
                            refine wpAnyH_take (i := 12) (oi := { dst := some 124, op := Op.move (Operand.tmp 15), type := 3, pos := "law.go:181", after := #[{ on := 10, ground := Ground.guard }], guard := some (10, true) }) (v := undef) rfl (by kernel_rfl) (by kernel_rfl) (by kernel_rfl) (fun _ _ _ h => h) (Or.inr ⟨by rfl, rfl⟩) (by assumption) ?_
                            try simp only [Act.put, List.setIfInBounds_toArray, List.set_cons_zero, List.set_cons_succ]
                            refine wpAnyH_take (i := 13) (oi := { dst := some 125, op := Op.indexAddr 22 (Operand.tmp 123) (Operand.tmp 124), type := 0, pos := "law.go:181", after := #[{ on := 11, ground := Ground.data }, { on := 12, ground := Ground.data }, { on := 10, ground := Ground.guard }], guard := some (10, true) }) (v := undef) rfl (by kernel_rfl) (by kernel_rfl) (by kernel_rfl) (fun _ _ _ h => h) (Or.inr ⟨by rfl, rfl⟩) (by assumption) ?_
                            try simp only [Act.put, List.setIfInBounds_toArray, List.set_cons_zero, List.set_cons_succ]
                            refine wpAnyH_take (i := 14) (oi := { dst := some 126, op := Op.fieldAddr 32 (Operand.tmp 125) 3, type := 0, pos := "law.go:181", after := #[{ on := 13, ground := Ground.data }, { on := 10, ground := Ground.guard }], guard := some (10, true) }) (v := undef) rfl (by kernel_rfl) (by kernel_rfl) (by kernel_rfl) (fun _ _ _ h => h) (Or.inr ⟨by rfl, rfl⟩) (by assumption) ?_
                            try simp only [Act.put, List.setIfInBounds_toArray, List.set_cons_zero, List.set_cons_succ]
                            refine wpAnyH_take (i := 15) (oi := { dst := some 127, op := Op.load 29 (Operand.tmp 126), type := 29, pos := "law.go:181", after := #[{ on := 14, ground := Ground.data }, { on := 10, ground := Ground.guard }], guard := some (10, true) }) (v := undef) rfl (by kernel_rfl) (by kernel_rfl) (by kernel_rfl) (fun _ _ _ h => h) (Or.inr ⟨by rfl, rfl⟩) (by assumption) ?_
                            try simp only [Act.put, List.setIfInBounds_toArray, List.set_cons_zero, List.set_cons_succ]
                            refine wpAnyH_take (i := 16) (oi := { dst := some 128, op := Op.fieldAddr 38 (Operand.tmp 12) 1, type := 0, pos := "law.go:181", after := #[{ on := 10, ground := Ground.guard }], guard := some (10, true) }) (v := undef) rfl (by kernel_rfl) (by kernel_rfl) (by kernel_rfl) (fun _ _ _ h => h) (Or.inr ⟨by rfl, rfl⟩) (by assumption) ?_
                            try simp only [Act.put, List.setIfInBounds_toArray, List.set_cons_zero, List.set_cons_succ]
                            refine wpAnyH_take (i := 17) (oi := { dst := some 129, op := Op.load 29 (Operand.tmp 128), type := 29, pos := "law.go:181", after := #[{ on := 16, ground := Ground.data }, { on := 10, ground := Ground.guard }], guard := some (10, true) }) (v := undef) rfl (by kernel_rfl) (by kernel_rfl) (by kernel_rfl) (fun _ _ _ h => h) (Or.inr ⟨by rfl, rfl⟩) (by assumption) ?_
                            try simp only [Act.put, List.setIfInBounds_toArray, List.set_cons_zero, List.set_cons_succ]
                            refine wpAnyH_take (i := 18) (oi := { dst := some 130, op := Op.binOp BinOp.eql 29 (Operand.tmp 127) (Operand.tmp 129) 29, type := 4, pos := "law.go:181", after := #[{ on := 15, ground := Ground.data }, { on := 17, ground := Ground.data }, { on := 10, ground := Ground.guard }], guard := some (10, true) }) (v := undef) rfl (by kernel_rfl) (by kernel_rfl) (by kernel_rfl) (fun _ _ _ h => h) (Or.inr ⟨by rfl, rfl⟩) (by assumption) ?_
                            try simp only [Act.put, List.setIfInBounds_toArray, List.set_cons_zero, List.set_cons_succ]
                            refine wpAnyH_take (i := 19) (oi := { dst := some 131, op := Op.pick (Operand.tmp 122) (Operand.tmp 130) (Operand.const (Value.bool false)), type := 4, pos := "law.go:181", after := #[{ on := 10, ground := Ground.data }, { on := 18, ground := Ground.data }, { on := 1, ground := Ground.guard }], guard := some (1, false) }) (v := ?_) rfl (by kernel_rfl) (by kernel_rfl) (by kernel_rfl) (fun _ _ _ h => h) (Or.inl ⟨by rfl, ?_⟩) (by assumption) ?_
                            rotate_left
                            · (intro w hSw; (try dsimp only at hSw); obtain ⟨⟨s2, s3, s4, s5, s6, s7, s8, s9, s10⟩, _⟩ := hSw; go_simp) <;> with_reducible rfl
                            try simp only [Act.put, List.setIfInBounds_toArray, List.set_cons_zero, List.set_cons_succ]
                            refine wpAnyH_take (i := 20) (oi := { dst := some 132, op := Op.move (Operand.tmp 131), type := 4, pos := "law.go:181", after := #[{ on := 19, ground := Ground.data }, { on := 10, ground := Ground.chain }, { on := 1, ground := Ground.guard }], guard := some (1, false) }) (v := ?_) rfl (by kernel_rfl) (by kernel_rfl) (by kernel_rfl) (fun _ _ _ h => h) (Or.inl ⟨by rfl, ?_⟩) (by assumption) ?_
                            rotate_left
                            · (intro w hSw; (try dsimp only at hSw); obtain ⟨⟨s2, s3, s4, s5, s6, s7, s8, s9, s10⟩, _⟩ := hSw; go_simp) <;> with_reducible rfl
                            try simp only [Act.put, List.setIfInBounds_toArray, List.set_cons_zero, List.set_cons_succ]
                            refine wpAnyH_take (i := 21) (oi := { dst := some 133, op := Op.move (Operand.tmp 8), type := 22, pos := "law.go:181", after := #[{ on := 20, ground := Ground.guard }], guard := some (20, true) }) (v := undef) rfl (by kernel_rfl) (by kernel_rfl) (by kernel_rfl) (fun _ _ _ h => h) (Or.inr ⟨by rfl, rfl⟩) (by assumption) ?_
                            try simp only [Act.put, List.setIfInBounds_toArray, List.set_cons_zero, List.set_cons_succ]
                            refine wpAnyH_take (i := 22) (oi := { dst := some 134, op := Op.move (Operand.tmp 15), type := 3, pos := "law.go:181", after := #[{ on := 20, ground := Ground.guard }], guard := some (20, true) }) (v := undef) rfl (by kernel_rfl) (by kernel_rfl) (by kernel_rfl) (fun _ _ _ h => h) (Or.inr ⟨by rfl, rfl⟩) (by assumption) ?_
                            try simp only [Act.put, List.setIfInBounds_toArray, List.set_cons_zero, List.set_cons_succ]
                            refine wpAnyH_take (i := 23) (oi := { dst := some 135, op := Op.indexAddr 22 (Operand.tmp 133) (Operand.tmp 134), type := 0, pos := "law.go:181", after := #[{ on := 21, ground := Ground.data }, { on := 22, ground := Ground.data }, { on := 20, ground := Ground.guard }], guard := some (20, true) }) (v := undef) rfl (by kernel_rfl) (by kernel_rfl) (by kernel_rfl) (fun _ _ _ h => h) (Or.inr ⟨by rfl, rfl⟩) (by assumption) ?_
                            try simp only [Act.put, List.setIfInBounds_toArray, List.set_cons_zero, List.set_cons_succ]
                            refine wpAnyH_take (i := 24) (oi := { dst := some 136, op := Op.fieldAddr 32 (Operand.tmp 135) 4, type := 0, pos := "law.go:181", after := #[{ on := 23, ground := Ground.data }, { on := 20, ground := Ground.guard }], guard := some (20, true) }) (v := undef) rfl (by kernel_rfl) (by kernel_rfl) (by kernel_rfl) (fun _ _ _ h => h) (Or.inr ⟨by rfl, rfl⟩) (by assumption) ?_
                            try simp only [Act.put, List.setIfInBounds_toArray, List.set_cons_zero, List.set_cons_succ]
                            refine wpAnyH_take (i := 25) (oi := { dst := some 137, op := Op.load 30 (Operand.tmp 136), type := 30, pos := "law.go:181", after := #[{ on := 24, ground := Ground.data }, { on := 20, ground := Ground.guard }], guard := some (20, true) }) (v := undef) rfl (by kernel_rfl) (by kernel_rfl) (by kernel_rfl) (fun _ _ _ h => h) (Or.inr ⟨by rfl, rfl⟩) (by assumption) ?_
                            try simp only [Act.put, List.setIfInBounds_toArray, List.set_cons_zero, List.set_cons_succ]
                            refine wpAnyH_take (i := 26) (oi := { dst := some 138, op := Op.fieldAddr 38 (Operand.tmp 12) 2, type := 0, pos := "law.go:181", after := #[{ on := 20, ground := Ground.guard }], guard := some (20, true) }) (v := undef) rfl (by kernel_rfl) (by kernel_rfl) (by kernel_rfl) (fun _ _ _ h => h) (Or.inr ⟨by rfl, rfl⟩) (by assumption) ?_
                            try simp only [Act.put, List.setIfInBounds_toArray, List.set_cons_zero, List.set_cons_succ]
                            refine wpAnyH_take (i := 27) (oi := { dst := some 139, op := Op.load 30 (Operand.tmp 138), type := 30, pos := "law.go:181", after := #[{ on := 26, ground := Ground.data }, { on := 20, ground := Ground.guard }], guard := some (20, true) }) (v := undef) rfl (by kernel_rfl) (by kernel_rfl) (by kernel_rfl) (fun _ _ _ h => h) (Or.inr ⟨by rfl, rfl⟩) (by assumption) ?_
                            try simp only [Act.put, List.setIfInBounds_toArray, List.set_cons_zero, List.set_cons_succ]
                            refine wpAnyH_take (i := 28) (oi := { dst := some 140, op := Op.fieldAddr 38 (Operand.tmp 12) 3, type := 0, pos := "law.go:181", after := #[{ on := 20, ground := Ground.guard }], guard := some (20, true) }) (v := undef) rfl (by kernel_rfl) (by kernel_rfl) (by kernel_rfl) (fun _ _ _ h => h) (Or.inr ⟨by rfl, rfl⟩) (by assumption) ?_
                            try simp only [Act.put, List.setIfInBounds_toArray, List.set_cons_zero, List.set_cons_succ]
                            refine wpAnyH_take (i := 29) (oi := { dst := some 141, op := Op.load 4 (Operand.tmp 140), type := 4, pos := "law.go:181", after := #[{ on := 28, ground := Ground.data }, { on := 20, ground := Ground.guard }], guard := some (20, true) }) (v := undef) rfl (by kernel_rfl) (by kernel_rfl) (by kernel_rfl) (fun _ _ _ h => h) (Or.inr ⟨by rfl, rfl⟩) (by assumption) ?_
                            try simp only [Act.put, List.setIfInBounds_toArray, List.set_cons_zero, List.set_cons_succ]
                            refine wpAnyH_ready (rs := [30]) (by kernel_rfl) (by simp) ?_
                            refine AllReadyH.cons (o := { dst := some 142, op := Op.call { callee := Callee.value (Operand.func 14), args := #[Operand.tmp 137, Operand.tmp 139, Operand.tmp 141], argTypes := #[30, 30, 4] }, type := 4, pos := "law.go:181", after := #[{ on := 25, ground := Ground.data }, { on := 27, ground := Ground.data }, { on := 29, ground := Ground.data }, { on := 20, ground := Ground.chain }, { on := 20, ground := Ground.guard }], guard := some (20, true) }) rfl (fun K hK => ?_) AllReadyH.nil
                            go_simp
                            refine hK.out _ _ (by assumption) (fun _ => ?_)
                            clear hK K
                            refine wpAnyH_take (i := 31) (oi := { dst := some 143, op := Op.pick (Operand.tmp 132) (Operand.tmp 142) (Operand.const (Value.bool false)), type := 4, pos := "law.go:181", after := #[{ on := 20, ground := Ground.data }, { on := 30, ground := Ground.data }, { on := 1, ground := Ground.guard }], guard := some (1, false) }) (v := ?_) rfl (by kernel_rfl) (by kernel_rfl) (by kernel_rfl) (fun _ _ _ h => h) (Or.inl ⟨by rfl, ?_⟩) (by assumption) ?_
                            rotate_left
                            · (intro w hSw; (try dsimp only at hSw); obtain ⟨⟨s2, s3, s4, s5, s6, s7, s8, s9, s10⟩, _⟩ := hSw; go_simp) <;> with_reducible rfl
                            try simp only [Act.put, List.setIfInBounds_toArray, List.set_cons_zero, List.set_cons_succ]
                            refine wpAnyH_take (i := 32) (oi := { dst := some 144, op := Op.pick (Operand.tmp 113) (Operand.const (Value.bool true)) (Operand.tmp 143), type := 4, pos := "law.go:181", after := #[{ on := 1, ground := Ground.data }, { on := 31, ground := Ground.data }], guard := none }) (v := ?_) rfl (by kernel_rfl) (by kernel_rfl) (by kernel_rfl) (fun _ _ _ h => h) (Or.inl ⟨by rfl, ?_⟩) (by assumption) ?_
                            rotate_left
                            · (intro w hSw; (try dsimp only at hSw); obtain ⟨⟨s2, s3, s4, s5, s6, s7, s8, s9, s10⟩, _⟩ := hSw; go_simp) <;> with_reducible rfl
                            try simp only [Act.put, List.setIfInBounds_toArray, List.set_cons_zero, List.set_cons_succ]
                            refine wpAnyH_take (i := 33) (oi := { dst := some 14, op := Op.assign (Operand.tmp 144), type := 4, pos := "law.go:181", after := #[{ on := 32, ground := Ground.data }, { on := 30, ground := Ground.chain }, { on := 0, ground := Ground.phase }, { on := 1, ground := Ground.phase }, { on := 2, ground := Ground.phase }, { on := 3, ground := Ground.phase }, { on := 4, ground := Ground.phase }, { on := 5, ground := Ground.phase }, { on := 6, ground := Ground.phase }, { on := 7, ground := Ground.phase }, { on := 8, ground := Ground.phase }, { on := 9, ground := Ground.phase }, { on := 10, ground := Ground.phase }, { on := 11, ground := Ground.phase }, { on := 12, ground := Ground.phase }, { on := 13, ground := Ground.phase }, { on := 14, ground := Ground.phase }, { on := 15, ground := Ground.phase }, { on := 16, ground := Ground.phase }, { on := 17, ground := Ground.phase }, { on := 18, ground := Ground.phase }, { on := 19, ground := Ground.phase }, { on := 20, ground := Ground.phase }, { on := 21, ground := Ground.phase }, { on := 22, ground := Ground.phase }, { on := 23, ground := Ground.phase }, { on := 24, ground := Ground.phase }, { on := 25, ground := Ground.phase }, { on := 26, ground := Ground.phase }, { on := 27, ground := Ground.phase }, { on := 28, ground := Ground.phase }, { on := 29, ground := Ground.phase }, { on := 30, ground := Ground.phase }, { on := 31, ground := Ground.phase }, { on := 32, ground := Ground.phase }], guard := none }) (v := ?_) rfl (by kernel_rfl) (by kernel_rfl) (by kernel_rfl) (fun _ _ _ h => h) (Or.inl ⟨by rfl, ?_⟩) (by assumption) ?_
                            rotate_left
                            · (intro w hSw; (try dsimp only at hSw); obtain ⟨⟨s2, s3, s4, s5, s6, s7, s8, s9, s10⟩, _⟩ := hSw; go_simp) <;> with_reducible rfl
                            try simp only [Act.put, List.setIfInBounds_toArray, List.set_cons_zero, List.set_cons_succ]
                            refine wpAnyH_done (by kernel_rfl) ?_ _
                            have HWn : Hid _ := hHeld.2
                            clear hHeld S0
                            go_wp2_with fail
                            go_roundw
                            case rel => exact ⟨k + 1, by omega, by simp, by rw [HT2.out], HWn.out⟩
                            case measure => simp [intOf]; omega
                      · have hd2 : decide ((k : Int) < (sl.length : Int)) = false := by simp; omega
                        have hT : (sl.take k).any (kn x) = true := by rw [List.take_of_length_le (by omega)]; exact HKX.out
                        rw [hT]
                        have HJ : Hid (ArI w wr b sz (.slice sa sl.length sc) sl sl (u - 1)) := HJ5.out.1.1.below HW.out
                        have hcu : ((u - 1 : Nat) : Int) = (u : Int) - 1 := by omega
                        clear hT HKX
                        obtain ⟨nv2, ms2, hn1, hn2, hn3, hn4⟩ := HJ.out.net
                        have HLN : Hid (Calls Try.prog 15 #[.pointer (some ⟨b, 0, none⟩)] wr fun e w' => e = .returned (.int .i64 ((u : Int) - 1)) ∧ w' = wr) := by
                          have := len_anyL hn1
                          rw [hn2, hcu] at this
                          exact this
                        clear hn1 hn2 hn3 hn4
                        have HCU : Hid (((u - 1 : Nat) : Int) = (u : Int) - 1) := hcu
                        clear hcu
                        go_wp2_with fail
                        refine HLN.out.mono ?_
                        rintro _ _ ⟨rfl, rfl⟩
                        go_wp2_with fail
                        go_roundw
                        case rel => exact ⟨i + 1, u - 1, sl, sa, sc, by omega, by simp, by rw [HCU.out], by omega, by omega, rfl, HJ.out⟩
                        case measure => simp [intOf]; omega
                · have d4 : (o.kd == 2) = false := by simpa using e4
                  clear e4
                  have HJ : Hid (ArI w wb b sz (.slice sa sl.length sc) sl sl u) := HB.out.2
                  obtain ⟨nv2, ms2, hn1, hn2, hn3, hn4⟩ := HJ.out.net
                  have HLN : Hid (Calls Try.prog 15 #[.pointer (some ⟨b, 0, none⟩)] wb fun e w' => e = .returned (.int .i64 (u : Int)) ∧ w' = wb) := by
                    have := len_anyL hn1
                    rw [hn2] at this
                    exact this
                  clear hn1 hn2 hn3 hn4
                  go_wp2_with fail
                  refine HLN.out.mono ?_
                  rintro _ _ ⟨rfl, rfl⟩
                  go_wp2_with fail
                  go_roundw
                  case rel => exact ⟨i + 1, u, sl, sa, sc, by omega, by simp, by simp, by omega, by first | omega | (simp; omega), by first | rfl | simp, HJ.out⟩
                  case measure => simp [intOf]; omega
        · have hd : decide ((i : Int) < (l.length : Int)) = false := by simp; omega
          go_wp2_with fail
          all_goals (go_ret; exact ⟨rfl, HJ.out.bel⟩)
end Go.Proofs.Ytdhdmfibdgepfaa
