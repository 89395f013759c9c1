/- LinkPlays' walk. -/
import Derived.Test.YtghngopclhhoeaaDoorLpWJ
namespace Go.Proofs.YtghngopclhhoeaaDoor
open Go.RowKit
set_option maxRecDepth 8000
set_option linter.unusedSimpArgs false
set_option linter.unusedVariables false

theorem i64_and1L (n : Int) : bits .and .i64 n 1 = n % 2 := by
  have h1 : (BitVec.ofInt 64 1).toNat = 2 ^ 1 - 1 := by decide
  have key : (BitVec.ofInt 64 n &&& BitVec.ofInt 64 1).toNat = (n % ((2 ^ 64 : Nat) : Int)).toNat % 2 ^ 1 := by
    rw [BitVec.toNat_and, BitVec.toNat_ofInt, h1, Nat.and_two_pow_sub_one_eq_mod]
  show IntKind.i64.wrap ((BitVec.ofInt 64 n &&& BitVec.ofInt 64 1).toNat : Nat) = n % 2
  rw [key, IntKind.wrap_i64]
  omega
theorem cellL {w wr : World} {a : Nat} {i : Nat} {v : Value} (hb : Below w.heap.size w wr) (h : w.cell? ⟨a, i, none⟩ = some v) : wr.cell? ⟨a, i, none⟩ = some v := (bel_keptQ hb).cell h id

/-- What both places hold. -/
def RsK (D : Nat → Option PlR) (k : Nat) : List (Nat × PlR) := (List.range k).filterMap (fun q => (D q).map (fun R => (q, R)))
theorem RsK_none {D : Nat → Option PlR} {k : Nat} (h : D k = none) : RsK D (k + 1) = RsK D k := by
  unfold RsK
  rw [List.range_succ, List.filterMap_append]
  simp [h]
theorem RsK_some {D : Nat → Option PlR} {k : Nat} {R : PlR} (h : D k = some R) : RsK D (k + 1) = RsK D k ++ [(k, R)] := by
  unfold RsK
  rw [List.range_succ, List.filterMap_append]
  simp [h]
theorem RsK_mem {D : Nat → Option PlR} {k : Nat} {x : Nat × PlR} (h : x ∈ RsK D k) : x.1 < k ∧ D x.1 = some x.2 := by
  obtain ⟨q, hq, e⟩ := List.mem_filterMap.1 h
  cases hd : D q with
  | none => rw [hd] at e; simp at e
  | some R =>
    rw [hd] at e
    simp at e
    subst e
    exact ⟨List.mem_range.1 hq, hd⟩
theorem RsK_nodup (D : Nat → Option PlR) : ∀ k, ((RsK D k).map Prod.fst).Nodup
  | 0 => by simp [RsK]
  | k + 1 => by
    cases hd : D k with
    | none => rw [RsK_none hd]; exact RsK_nodup D k
    | some R =>
      rw [RsK_some hd, List.map_append, List.nodup_append]
      refine ⟨RsK_nodup D k, by simp, fun a ha b hb e => ?_⟩
      simp at hb
      subst hb e
      obtain ⟨x, hx, e2⟩ := List.mem_map.1 ha
      have := (RsK_mem hx).1
      omega
theorem RsK_len (D : Nat → Option PlR) (k : Nat) : (RsK D k).length ≤ k := by
  have := List.length_filterMap_le (fun q => (D q).map (fun R => (q, R))) (List.range k)
  rw [List.length_range] at this
  exact this
/-- What a place holds. -/
abbrev InD (W : World) (own : Nat → Nat) (c : Nat → Value) (D : Nat → Option PlR) (n q : Nat) : Prop := (D q = none ∧ c q = .pointer none) ∨ ∃ R, D q = some R ∧ c q = .pointer (some ⟨R.x, 0, none⟩) ∧ Pq W own q R ∧ AlikeG (R.l.map MsD.gd) R.L ∧ AlikeG R.K R.T ∧ R.l.length ≤ n ∧ R.K.length ≤ n
theorem Pr2.pick {w W : World} {own : Nat → Nat} {xw xs : Nat} {c : Nat → Value} {one two : Int} {n : Nat} (h : Pr2 w W own xw xs c one two n) : ∃ D : Nat → Option PlR, ∀ q, q < 2 → InD W own c D n q := by
  have hs : ∀ q, q < 2 → ∃ d : Option PlR, (d = none ∧ c q = .pointer none) ∨ ∃ R, d = some R ∧ c q = .pointer (some ⟨R.x, 0, none⟩) ∧ Pq W own q R ∧ AlikeG (R.l.map MsD.gd) R.L ∧ AlikeG R.K R.T ∧ R.l.length ≤ n ∧ R.K.length ≤ n := fun q hq => by
    rcases h.s q hq with e | ⟨R, e, a⟩
    · exact ⟨none, .inl ⟨rfl, e⟩⟩
    · exact ⟨some R, .inr ⟨R, rfl, e, a⟩⟩
  obtain ⟨d0, h0⟩ := hs 0 (by omega)
  obtain ⟨d1, h1⟩ := hs 1 (by omega)
  refine ⟨fun q => if q = 0 then d0 else d1, fun q hq => ?_⟩
  rcases (show q = 0 ∨ q = 1 by omega) with rfl | rfl
  · exact h0
  · exact h1
theorem BagM.keptQ {w w' : World} {g B : Nat} {bv mv : Value} {ps : List Pc} {ms : List Value} (h : BagM w g bv mv ps ms B) (hk : Kept w w' (fun _ => False)) : BagM w' g bv mv ps ms B :=
  ⟨hk.heap h.row id, rowKl h.bs hk (fun _ _ => id), rowKl h.me hk (fun _ _ => id)⟩
/-- How far the last loop has come. -/
structure LaB (W wr : World) (D : Nat → Option PlR) (g k : Nat) : Prop where
  kept : Kept W wr (fun _ => False)
  hg : W.heap.size ≤ g
  bag : ∃ bv mv, BagM wr g bv mv ((psK (RsK D k)).take 600) ((RsK D k).map (fun x => x.2.kv)) W.heap.size
/-- What the comparison of a World's lists reads. -/
structure EqS (V : World) (xw k : Nat) (R : PlR) (ka la : Option Addr) (kc lc : Nat) : Prop where
  c0 : V.cell? ⟨xw, k, none⟩ = some (.pointer (some ⟨R.x, 0, none⟩))
  x2 : V.cell? ⟨R.x, 2, none⟩ = some (.slice ka R.K.length kc)
  x3 : V.cell? ⟨R.x, 3, none⟩ = some (.slice la R.T.length lc)
  zw : xw < V.heap.size
  zx : R.x < V.heap.size

set_option maxHeartbeats 16000000 in
theorem plays_walk (one two : Int) (v : Value) (l : List OpT) (w : World) (hs : SeesTs w v l) (hlen : l.length ≤ 140737488355328) (ht : Tab w) (hg0 : 0 < w.heap.size) :
    Calls Tryd.prog 3 #[.int .i64 one, .int .i64 two, v] w fun e w' => e = .returned (.bool true) ∧ Below w.heap.size w w' := by
  have HS : Hid (∀ W, Below w.heap.size w W → SeesTs W v l) := fun W hW => hs.below hW
  have HT : Hid (∀ W, Below w.heap.size w W → Tab W ∧ 0 < W.heap.size) := fun W hW => ⟨tab_same ht (hW.block _ hg0), Nat.lt_of_lt_of_le hg0 hW.size⟩
  have HG0 : Hid (0 < w.heap.size) := hg0
  obtain ⟨ao, cap, rfl, hcap, hg, hc⟩ := hs
  have HG : Hid (∀ o ∈ l, GoodT w o) := hg
  have HC0 : Hid (l ≠ [] → ∃ b off, ao = some ⟨b, off, none⟩ ∧ ∀ i o, l[i]? = some o → ∀ j u, o.cells[j]? = some u → w.cell? ⟨b, off + i * 8 + j, none⟩ = some u) := hc
  clear hg hc ht hg0
  go_enter Tryd.func3, Tryd.ntmps3
  go_wp2_with fail
  refine Calls.mono (works22 w) ?_
  rintro _ w1 ⟨rfl, b1⟩
  have H1 : Hid (Below w.heap.size w w1) := b1
  clear b1
  go_wp2_with fail
  refine Calls.mono (long22 (HS.out w1 H1.out) hlen) ?_
  rintro _ w2 ⟨bl, rfl, hbl, b2⟩
  have H2 : Hid (Below w.heap.size w w2) := H1.out.trans (b2.mono H1.out.size)
  clear b2 H1 HS
  cases bl with
  | true =>
    clear hbl
    go_wp2_with fail
    all_goals (go_ret; exact ⟨rfl, H2.out⟩)
  | false =>
    have hll : l.length ≤ 67108864 := Nat.le_trans (totT_len l) (hbl rfl)
    have HLO : Hid (∀ o ∈ l, o.bs.length ≤ 67108864) := fun o ho => Nat.le_trans (totT_mem ho) (hbl rfl)
    clear hbl
    go_upto_region 6 with fail
    have HP0 : Hid (∃ own c, Pr2 w ((w2.alloc (.cells #[.pointer none, .pointer none] 26)).alloc (.cells #[.int .i64 one, .int .i64 two] 27)) own w2.heap.size (w2.heap.size + 1) c one two 0) := by
      obtain ⟨g1, g2, g3, g4⟩ := two_allocL w2 (.cells #[.pointer none, .pointer none] 26) (.cells #[.int .i64 one, .int .i64 two] 27)
      have hz := H2.out.size
      exact ⟨_, _, Pr2.start g2 g3 hz (by omega) (H2.out.trans (g1.mono hz))⟩
    clear H2
    generalize ((w2.alloc (.cells #[.pointer none, .pointer none] 26)).alloc (.cells #[.int .i64 one, .int .i64 two] 27)) = wb at *
    generalize w2.heap.size + 1 = xs at *
    generalize w2.heap.size = xw at *
    clear w2
    go_wp2
    go_loopw [10] (fun vk wr => ∃ k : Nat, k ≤ 2 ∧ vk = .int .i64 (k : Int) ∧ Hid (∃ own c, Pr2 w wr own xw xs c one two 0)) (fun vk _ => 2 - (intOf vk).toNat)
    case atStart => exact ⟨0, by omega, rfl, HP0.out⟩
    case round =>
      clear HP0
      obtain ⟨k, hk, rfl, HD⟩ := hrel
      by_cases hk2 : k < 2
      · have dk : decide ((k : Int) < 2) = true := by simp; omega
        have hkI : (k : Int) < 2 := by omega
        have hkJ : (0 : Int) ≤ (k : Int) := by omega
        obtain ⟨own, c, hP⟩ := HD.out
        have HP : Hid (Pr2 w wr own xw xs c one two 0) := hP
        obtain ⟨sp0, hsp0⟩ : ∃ s, s = (if k = 0 then one else two) := ⟨_, rfl⟩
        have HSZ : Hid ((if k = 0 then one else two) = sp0) := hsp0.symm
        have c0 := hP.cs hk2
        rw [HSZ.out] at c0
        have z0 : xs < wr.heap.size := lt_of_block hP.bs
        clear hP HD hsp0
        by_cases hs : 1 ≤ sp0 ∧ sp0 ≤ 7
        · have HN : Hid _ := new_good wr sp0 hs.1 hs.2
          go_wp2_with fail
          go_at_call 6
          refine Calls.mono HN.out ?_
          rintro e v1 ⟨rfl, hnt, hB1⟩
          have H1 : Hid (Nt v1 wr.heap.size sp0 (.slice none 0 0) [] ∧ Kept wr v1 (fun _ => False) ∧ Pr2 w v1 own xw xs c one two 0) := ⟨hnt, bel_keptQ hB1, HP.out.new (bel_keptQ hB1)⟩
          clear hnt hB1 c0 z0 HN
          have c0 := H1.out.2.2.cs hk2
          rw [HSZ.out] at c0
          have z0 : xs < v1.heap.size := lt_of_block H1.out.2.2.bs
          have HN : Hid _ := rNew_good v1 sp0 hs.1 hs.2 0
          go_wp2_with fail
          go_at_call 7
          refine Calls.mono HN.out ?_
          rintro e v2 ⟨rfl, hdn, hB2⟩
          have hk2' := bel_keptQ hB2
          have H2 : Hid (∃ own c, Pr2 w ((v2.alloc (.cells #[.pointer (some ⟨wr.heap.size, 0, none⟩), .pointer (some ⟨v1.heap.size, 0, none⟩), .slice none 0 0, .slice none 0 0] 37)).setCell ⟨xw, k, none⟩ (.pointer (some ⟨v2.heap.size, 0, none⟩))) own xw xs c one two 0) := by
            have := lt_of_block H1.out.1.hb
            have := H1.out.2.1.size
            exact HP.out.put hk2 (H1.out.2.1.trans hk2' (fun _ _ e => e)) (H1.out.1.kept hk2' (fun _ _ e => e)) hdn (Nat.le_refl _) (by omega) (by omega)
          have hP2 : Pr2 w v2 own xw xs c one two 0 := H1.out.2.2.new hk2'
          have hP3 := hP2.new ((Kept.refl v2 _).alloc (.cells #[.pointer (some ⟨wr.heap.size, 0, none⟩), .pointer (some ⟨v1.heap.size, 0, none⟩), .slice none 0 0, .slice none 0 0] 37))
          have c3 := hP2.cw hk2
          have z3 : xw < v2.heap.size := lt_of_block hP2.bw
          have f3 : v2.frozen? ⟨xw, k, none⟩ = false := by simp [World.frozen?, hP2.bw]
          have c4 := hP3.cw hk2
          have f4 : (v2.alloc (.cells #[.pointer (some ⟨wr.heap.size, 0, none⟩), .pointer (some ⟨v1.heap.size, 0, none⟩), .slice none 0 0, .slice none 0 0] 37)).frozen? ⟨xw, k, none⟩ = false := by simp [World.frozen?, hP3.bw]
          have H3 : Hid (∃ own c, Pr2 w ((v2.setCell ⟨xw, k, none⟩ (.pointer (some ⟨v2.heap.size, 0, none⟩))).alloc (.cells #[.pointer (some ⟨wr.heap.size, 0, none⟩), .pointer (some ⟨v1.heap.size, 0, none⟩), .slice none 0 0, .slice none 0 0] 37)) own xw xs c one two 0) := by
            rw [← World.setCell_alloc_past _ _ _ _ z3]
            exact H2.out
          clear hdn hB2 hk2' hP2 hP3 H1 HN HP c0 z0 HSZ H2
          go_wp2
          go_roundw
          case rel => exact ⟨k + 1, by omega, by go_num, H3.out⟩
          case measure => simp [intOf]; omega
        · have hs2 : sp0 < 1 ∨ 7 < sp0 := by omega
          have HN : Hid _ := new_bad wr sp0 hs2
          go_wp2_with fail
          go_at_call 6
          refine Calls.mono HN.out ?_
          rintro e v1 ⟨rfl, hv1⟩
          subst hv1
          have HN : Hid _ := rNew_bad v1 sp0 hs2
          go_wp2_with fail
          go_at_call 7
          refine Calls.mono HN.out ?_
          rintro e v2 ⟨rfl, hv2⟩
          rw [hv2]
          clear HN hv2
          go_wp2
          go_roundw
          case rel => exact ⟨k + 1, by omega, by go_num, own, c, HP.out⟩
          case measure => simp [intOf]; omega
      · have dk : decide ((k : Int) < 2) = false := by simp; omega
        clear hk hk2
        go_wp2
        clear dk
        go_loopw [7, 15] (fun vo vi wr => ∃ i : Nat, i ≤ l.length ∧ vo = .bool true ∧ vi = .int .i64 (i : Int) ∧ Hid (∃ own c, Pr2 w wr own xw xs c one two i)) (fun _ vi _ => l.length - (intOf vi).toNat)
        case atStart => exact ⟨0, by omega, rfl, rfl, HD.out⟩
        case round =>
          clear HD
          obtain ⟨i, hi, rfl, rfl, HD⟩ := hrel
          by_cases hlt : i < l.length
          · have hd : decide ((i : Int) < (l.length : Int)) = true := by simp; omega
            obtain ⟨o, ho⟩ : ∃ o, l[i]? = some o := ⟨_, List.getElem?_eq_getElem hlt⟩
            have hom := List.mem_of_getElem? ho
            obtain ⟨sb, off, hso, hcx⟩ := HC0.out (fun e => by rw [e] at hlt; simp at hlt)
            obtain ⟨own, c, hP⟩ := HD.out
            obtain ⟨kk, hkk⟩ : ∃ kk : Nat, o.on % 2 = (kk : Int) := ⟨(o.on % 2).toNat, by omega⟩
            have hk2 : kk < 2 := by omega
            have hkI : (kk : Int) < 2 := by omega
            have hkJ : (0 : Int) ≤ (kk : Int) := by omega
            have ige : (0 : Int) ≤ (i : Int) := by omega
            have ilt : (i : Int) < (l.length : Int) := by omega
            have hand : bits .and .i64 o.on 1 = (kk : Int) := by rw [i64_and1L, hkk]
            clear hkk
            have cw := hP.cw hk2
            have zw : xw < wr.heap.size := lt_of_block hP.bw
            have co : wr.cell? ⟨sb, off + i * 8 + 1, none⟩ = some (.int .i64 o.on) := cellL hP.be (hcx i o ho 1 _ rfl)
            have zs : sb < wr.heap.size := World.block_lt_of_cell? wr _ co
            have HP : Hid (Pr2 w wr own xw xs c one two i) := hP
            rcases hP.s kk hk2 with hnil | ⟨R, hR, hq, ha1, ha2, hl1, hl2⟩
            · rw [hnil] at cw
              subst hso
              clear hP hcx ho hom hnil
              go_wp2
              go_roundw
              case rel => exact ⟨i + 1, by omega, rfl, by go_num, own, c, HP.out.more (by omega)⟩
              case measure => simp [intOf]; omega
            · have HGC : Hid (∀ V, (∃ own' n', Pr2 w V own' xw xs c one two n') → V.cell? ⟨xw, kk, none⟩ = some (.pointer (some ⟨R.x, 0, none⟩)) ∧ V.cell? ⟨sb, off + i * 8, none⟩ = some (.int .i64 o.kd) ∧ V.cell? ⟨sb, off + i * 8 + 1, none⟩ = some (.int .i64 o.on) ∧ V.cell? ⟨sb, off + i * 8 + 2, none⟩ = some (.int .i8 o.f) ∧ V.cell? ⟨sb, off + i * 8 + 3, none⟩ = some (.int .i8 o.t) ∧ V.cell? ⟨sb, off + i * 8 + 4, none⟩ = some (.slice o.ba o.bs.length o.bc) ∧ V.cell? ⟨sb, off + i * 8 + 5, none⟩ = some (.int .i64 o.pl) ∧ V.cell? ⟨sb, off + i * 8 + 6, none⟩ = some (.int .i64 o.k) ∧ V.cell? ⟨sb, off + i * 8 + 7, none⟩ = some (.int .u8 o.x)) := by
                rintro V ⟨o', n', h⟩
                have q := h.cw hk2
                rw [hR] at q
                exact ⟨q, cellL h.be (hcx i o ho 0 _ rfl), cellL h.be (hcx i o ho 1 _ rfl), cellL h.be (hcx i o ho 2 _ rfl), cellL h.be (hcx i o ho 3 _ rfl), cellL h.be (hcx i o ho 4 _ rfl), cellL h.be (hcx i o ho 5 _ rfl), cellL h.be (hcx i o ho 6 _ rfl), cellL h.be (hcx i o ho 7 _ rfl)⟩
              have hkd : Kept wr wr.drew (fun _ => False) := (Kept.refl wr _).drewN 1
              have HCl : Hid (Calls Tryd.prog 8 #[.pointer (some ⟨R.x, 0, none⟩), .agg #[.int .i64 o.kd, .int .i64 o.on, .int .i8 o.f, .int .i8 o.t, .slice o.ba o.bs.length o.bc, .int .i64 o.pl, .int .i64 o.k, .int .u8 o.x]] wr.drew fun e w' => e = .returned (.bool true) ∧ Hid (∃ own', Pr2 w w' own' xw xs c one two (i + 1))) := by
                have hPd := hP.new hkd
                have hgo : ∀ k, k < w.heap.size → own k / 10 ≠ kk := fun k hk e => by have := hP.lo k (by omega); omega
                have hse := (HG.out o hom).se
                refine Calls.mono (does_anyQ (by omega) (hq.new hkd) ha1 ha2 (by omega) (by omega) (hgo _ HG0.out) (HT.out _ hPd.be).1 (HT.out _ hPd.be).2 o ((HG.out o hom).below hPd.be) (HLO.out o hom) (fun hne k e => hgo k ?_)) ?_
                · obtain ⟨ba, c2, e1, _, _, _, h3⟩ := hse
                  rcases h3 with h3 | ⟨b3, off3, rfl, h3⟩
                  · exact absurd h3 hne
                  · rw [e1] at e
                    have e3 : b3 = k := by
                      have e4 : some b3 = some k := e
                      simpa using e4
                    subst e3
                    exact World.block_lt_of_cell? w _ (h3 0 (by cases hbs : o.bs with | nil => exact absurd hbs hne | cons a r => simp))
                · rintro e w' ⟨rfl, hD⟩
                  exact ⟨rfl, hPd.step hk2 hR ⟨hl1, hl2⟩ hD.out⟩
              have hG0 := HGC.out wr.drew ⟨own, i, hP.new hkd⟩
              rw [hR] at cw
              subst hso
              clear hP hcx ho hom hkd hq ha1 ha2 hl1 hl2 HP HD
              go_upto_region 20 with fail
              refine wp_region_held_drew (S := (fun V => V.cell? ⟨xw, kk, none⟩ = some (.pointer (some ⟨R.x, 0, none⟩)) ∧ V.cell? ⟨sb, off + i * 8, none⟩ = some (.int .i64 o.kd) ∧ V.cell? ⟨sb, off + i * 8 + 1, none⟩ = some (.int .i64 o.on) ∧ V.cell? ⟨sb, off + i * 8 + 2, none⟩ = some (.int .i8 o.f) ∧ V.cell? ⟨sb, off + i * 8 + 3, none⟩ = some (.int .i8 o.t) ∧ V.cell? ⟨sb, off + i * 8 + 4, none⟩ = some (.slice o.ba o.bs.length o.bc) ∧ V.cell? ⟨sb, off + i * 8 + 5, none⟩ = some (.int .i64 o.pl) ∧ V.cell? ⟨sb, off + i * 8 + 6, none⟩ = some (.int .i64 o.k) ∧ V.cell? ⟨sb, off + i * 8 + 7, none⟩ = some (.int .u8 o.x))) (by kernel_rfl) ?_ (fun hHeld => ?_)
              · exact hG0
              refine wpAnyH_take (i := 0) (oi := { dst := some 83, op := Op.move (Operand.tmp 16), type := 3, pos := "law.go:131", after := #[], guard := none }) (v := ?_) rfl (by kernel_rfl) (by kernel_rfl) (by kernel_rfl) (fun _ _ _ h => h) (Or.inl ⟨by rfl, ?_⟩) (by assumption) ?_
              rotate_left
              · (intro w hSw; (try dsimp only at hSw); go_simp) <;> with_reducible rfl
              try simp only [Act.put, List.setIfInBounds_toArray, List.set_cons_zero, List.set_cons_succ]
              refine wpAnyH_take (i := 1) (oi := { dst := some 84, op := Op.indexAddr 26 (Operand.tmp 8) (Operand.tmp 83), type := 0, pos := "law.go:131", after := #[{ on := 0, ground := Ground.data }], guard := none }) (v := ?_) rfl (by kernel_rfl) (by kernel_rfl) (by kernel_rfl) (fun _ _ _ h => h) (Or.inl ⟨by rfl, ?_⟩) (by assumption) ?_
              rotate_left
              · (intro w hSw; (try dsimp only at hSw); go_simp) <;> with_reducible rfl
              try simp only [Act.put, List.setIfInBounds_toArray, List.set_cons_zero, List.set_cons_succ]
              refine wpAnyH_take (i := 2) (oi := { dst := some 85, op := Op.load 25 (Operand.tmp 84), type := 25, pos := "law.go:131", after := #[{ on := 1, ground := Ground.data }], guard := none }) (v := ?_) rfl (by kernel_rfl) (by kernel_rfl) (by kernel_rfl) (fun _ _ _ h => h) (Or.inl ⟨by rfl, ?_⟩) (by assumption) ?_
              rotate_left
              · (intro w hSw; (try dsimp only at hSw); go_simp) <;> with_reducible rfl
              try simp only [Act.put, List.setIfInBounds_toArray, List.set_cons_zero, List.set_cons_succ]
              refine wpAnyH_take (i := 3) (oi := { dst := some 86, op := Op.move (Operand.tmp 2), type := 22, pos := "law.go:131", after := #[], guard := none }) (v := ?_) rfl (by kernel_rfl) (by kernel_rfl) (by kernel_rfl) (fun _ _ _ h => h) (Or.inl ⟨by rfl, ?_⟩) (by assumption) ?_
              rotate_left
              · (intro w hSw; (try dsimp only at hSw); go_simp) <;> with_reducible rfl
              try simp only [Act.put, List.setIfInBounds_toArray, List.set_cons_zero, List.set_cons_succ]
              refine wpAnyH_take (i := 4) (oi := { dst := some 87, op := Op.move (Operand.tmp 15), type := 3, pos := "law.go:131", after := #[], guard := none }) (v := ?_) rfl (by kernel_rfl) (by kernel_rfl) (by kernel_rfl) (fun _ _ _ h => h) (Or.inl ⟨by rfl, ?_⟩) (by assumption) ?_
              rotate_left
              · (intro w hSw; (try dsimp only at hSw); go_simp) <;> with_reducible rfl
              try simp only [Act.put, List.setIfInBounds_toArray, List.set_cons_zero, List.set_cons_succ]
              refine wpAnyH_take (i := 5) (oi := { dst := some 88, op := Op.indexAddr 22 (Operand.tmp 86) (Operand.tmp 87), type := 0, pos := "law.go:131", after := #[{ on := 3, ground := Ground.data }, { on := 4, ground := Ground.data }], guard := none }) (v := ?_) rfl (by kernel_rfl) (by kernel_rfl) (by kernel_rfl) (fun _ _ _ h => h) (Or.inl ⟨by rfl, ?_⟩) (by assumption) ?_
              rotate_left
              · (intro w hSw; (try dsimp only at hSw); go_simp) <;> with_reducible rfl
              try simp only [Act.put, List.setIfInBounds_toArray, List.set_cons_zero, List.set_cons_succ]
              refine wpAnyH_take (i := 6) (oi := { dst := some 89, op := Op.load 41 (Operand.tmp 88), type := 41, pos := "law.go:131", after := #[{ on := 5, ground := Ground.data }], guard := none }) (v := ?_) rfl (by kernel_rfl) (by kernel_rfl) (by kernel_rfl) (fun _ _ _ h => h) (Or.inl ⟨by rfl, ?_⟩) (by assumption) ?_
              rotate_left
              · (intro w hSw; (try dsimp only at hSw); go_simp) <;> with_reducible rfl
              try simp only [Act.put, List.setIfInBounds_toArray, List.set_cons_zero, List.set_cons_succ]
              refine wpAnyH_ready (rs := [7]) (by kernel_rfl) (by simp) ?_
              refine AllReadyH.cons (o := { dst := some 90, op := Op.call { callee := Callee.value (Operand.func 8), args := #[Operand.tmp 85, Operand.tmp 89], argTypes := #[25, 41] }, type := 4, pos := "law.go:131", after := #[{ on := 2, ground := Ground.data }, { on := 6, ground := Ground.data }], guard := none }) rfl (fun K hK => ?_) AllReadyH.nil
              go_simp
              refine Calls.mono HCl.out ?_
              rintro r1 w1 ⟨rfl, hP1⟩
              have HP1 : Hid (∃ own', Pr2 w w1 own' xw xs c one two (i + 1)) := hP1.out
              clear hP1 HCl
              refine hK.out _ _ (HGC.out w1 (by obtain ⟨o', h'⟩ := HP1.out; exact ⟨o', _, h'⟩)) (fun hHeld => ?_)
              clear hK K
              refine wpAnyH_take (i := 8) (oi := { dst := some 7, op := Op.assign (Operand.tmp 90), type := 4, pos := "law.go:131", after := #[{ on := 7, ground := Ground.data }, { on := 7, ground := Ground.chain }, { on := 0, ground := Ground.phase }, { on := 1, ground := Ground.phase }, { on := 2, ground := Ground.phase }, { on := 3, ground := Ground.phase }, { on := 4, ground := Ground.phase }, { on := 5, ground := Ground.phase }, { on := 6, ground := Ground.phase }, { on := 7, ground := Ground.phase }], guard := none }) (v := ?_) rfl (by kernel_rfl) (by kernel_rfl) (by kernel_rfl) (fun _ _ _ h => h) (Or.inl ⟨by rfl, ?_⟩) (by assumption) ?_
              rotate_left
              · (intro w hSw; (try dsimp only at hSw); go_simp) <;> with_reducible rfl
              try simp only [Act.put, List.setIfInBounds_toArray, List.set_cons_zero, List.set_cons_succ]
              refine wpAnyH_done (by kernel_rfl) ?_ _
              clear hHeld hG0
              go_wp2
              go_roundw
              case rel =>
                obtain ⟨o', h'⟩ := HP1.out
                exact ⟨i + 1, by omega, rfl, by go_num, o', c, h'⟩
              case measure => simp [intOf]; omega
          · have hd : decide ((i : Int) < (l.length : Int)) = false := by simp; omega
            obtain ⟨own, c, hP⟩ := HD.out
            obtain ⟨D, hD⟩ := hP.pick
            have HP : Hid (Pr2 w wr own xw xs c one two i) := hP
            have HDD : Hid (∀ q, q < 2 → InD wr own c D i q) := hD
            have hil : i ≤ 67108864 := by omega
            clear hP hD HD
            go_upto_region 22 with fail
            obtain ⟨wo, hwo⟩ : ∃ wo, wo = wr := ⟨_, rfl⟩
            obtain ⟨g, hg⟩ : ∃ g, g = wr.heap.size := ⟨_, rfl⟩
            obtain ⟨wg, hwg⟩ : ∃ wg, wg = wr.alloc (.cells (bagM nilM nilM) 66) := ⟨_, rfl⟩
            have HB0 : Hid (LaB wo wg D g 0) := by
              rw [hwo, hg, hwg]
              exact ⟨(Kept.refl _ _).alloc _, Nat.le_refl _, nilM, nilM, BagM.new (heap_alloc_new _ _)⟩
            rw [← hwg, ← hg]
            rw [← hwo] at HP HDD
            clear hg hwg hwo
            go_wp2
            clear hd
            go_loopw [7, 18] (fun vo vk wx => ∃ k : Nat, k ≤ 2 ∧ vo = .bool true ∧ vk = .int .i64 (k : Int) ∧ Hid (LaB wo wx D g k)) (fun _ vk _ => 2 - (intOf vk).toNat)
            case atStart => exact ⟨0, by omega, rfl, rfl, HB0.out⟩
            case round =>
              clear HB0
              obtain ⟨k, hk, rfl, rfl, HL⟩ := hrel
              by_cases hk2 : k < 2
              · have dk : decide ((k : Int) < 2) = true := by simp; omega
                have hkI : (k : Int) < 2 := by omega
                have hkJ : (0 : Int) ≤ (k : Int) := by omega
                have cw := (HP.out.new HL.out.kept).cw hk2
                have zw : xw < wr.heap.size := lt_of_block (HP.out.new HL.out.kept).bw
                rcases HDD.out k hk2 with ⟨hd0, hnil⟩ | ⟨R, hd1, hR, hq, ha1, ha2, hl1, hl2⟩
                · rw [hnil] at cw
                  have HN : Hid (LaB wo wr D g (k + 1)) := ⟨HL.out.kept, HL.out.hg, by rw [RsK_none hd0]; exact HL.out.bag⟩
                  clear hd0 hnil HL
                  go_wp2
                  go_roundw
                  case rel => exact ⟨k + 1, by omega, rfl, by go_num, HN.out⟩
                  case measure => simp [intOf]; omega
                · have hbe := (HP.out.new HL.out.kept).be
                  have HCl : Hid _ := does_tell (hq.new HL.out.kept) ha1 (by omega) (HT.out _ hbe).1 (HT.out _ hbe).2 0 0 0 (.slice none 0 0) 0 0 0
                  rw [hR] at cw
                  obtain ⟨ka, kc, hkv⟩ := rowSl hq.ko.row
                  obtain ⟨la, lc, hwv⟩ := rowSl hq.wo.row
                  have HKV : Hid (R.kv = .slice ka R.K.length kc ∧ R.wv = .slice la R.T.length lc) := ⟨hkv, hwv⟩
                  have HRR : Hid (Pq wo own k R ∧ AlikeG R.K R.T ∧ D k = some R) := ⟨hq, ha2, hd1⟩
                  have hKl : R.K.length ≤ 67108864 := by omega
                  have HES : Hid (∀ V, Kept wo V (fun _ => False) → EqS V xw k R ka la kc lc) := fun V hV => by
                    have q := HP.out.new hV
                    have qq := hq.new hV
                    exact ⟨by rw [q.cw hk2, hR], by rw [cell_of_row _ _ 2 _ _ _ qq.row, ← hkv]; rfl, by rw [cell_of_row _ _ 3 _ _ _ qq.row, ← hwv]; rfl, lt_of_block q.bw, lt_of_block qq.row⟩
                  clear hd1 hR hq ha1 ha2 hl1 hl2 hbe hkv hwv
                  go_wp2_with fail
                  go_at_call 8
                  refine Calls.mono HCl.out ?_
                  rintro e w2 ⟨rfl, hk2'⟩
                  have H2 : Hid (LaB wo w2 D g k) := ⟨HL.out.kept.trans hk2'.out (fun _ _ e => e), HL.out.hg, by obtain ⟨a, b, q⟩ := HL.out.bag; exact ⟨a, b, q.keptQ hk2'.out⟩⟩
                  clear hk2' HCl HL cw zw
                  have HEQ : Hid (∀ V, V = w2.drew → Calls Tryd.prog 9 #[.slice ka R.K.length kc, .slice la R.T.length lc] V fun e w' => e = .returned (.bool true) ∧ ∃ n, w' = V.drewN n) := by
                    rintro V rfl
                    have q := HRR.out.1.new (H2.out.kept.drewN 1)
                    have k1 := q.ko.sees
                    have k2 := q.wo.sees
                    rw [HKV.out.1] at k1
                    rw [HKV.out.2] at k2
                    exact eqMs_same k1 k2 HRR.out.2.1 (by omega)
                  go_upto_region 27 with fail
                  refine wp_region_held_drew (S := (fun V => EqS V xw k R ka la kc lc)) (by kernel_rfl) ?_ (fun hHeld => ?_)
                  · exact HES.out _ (H2.out.kept.drewN 1)
                  refine wpAnyH_take (i := 0) (oi := { dst := some 109, op := Op.move (Operand.tmp 18), type := 3, pos := "law.go:140", after := #[], guard := none }) (v := ?_) rfl (by kernel_rfl) (by kernel_rfl) (by kernel_rfl) (fun _ _ _ h => h) (Or.inl ⟨by rfl, ?_⟩) (by assumption) ?_
                  rotate_left
                  · (intro w hSw; (try dsimp only at hSw); obtain ⟨s0, s1, s2, s3, s4⟩ := hSw; go_simp) <;> with_reducible rfl
                  try simp only [Act.put, List.setIfInBounds_toArray, List.set_cons_zero, List.set_cons_succ]
                  refine wpAnyH_take (i := 1) (oi := { dst := some 110, op := Op.indexAddr 26 (Operand.tmp 8) (Operand.tmp 109), type := 0, pos := "law.go:140", after := #[{ on := 0, ground := Ground.data }], guard := none }) (v := ?_) rfl (by kernel_rfl) (by kernel_rfl) (by kernel_rfl) (fun _ _ _ h => h) (Or.inl ⟨by rfl, ?_⟩) (by assumption) ?_
                  rotate_left
                  · (intro w hSw; (try dsimp only at hSw); obtain ⟨s0, s1, s2, s3, s4⟩ := hSw; go_simp) <;> with_reducible rfl
                  try simp only [Act.put, List.setIfInBounds_toArray, List.set_cons_zero, List.set_cons_succ]
                  refine wpAnyH_take (i := 2) (oi := { dst := some 111, op := Op.load 25 (Operand.tmp 110), type := 25, pos := "law.go:140", after := #[{ on := 1, ground := Ground.data }], guard := none }) (v := ?_) rfl (by kernel_rfl) (by kernel_rfl) (by kernel_rfl) (fun _ _ _ h => h) (Or.inl ⟨by rfl, ?_⟩) (by assumption) ?_
                  rotate_left
                  · (intro w hSw; (try dsimp only at hSw); obtain ⟨s0, s1, s2, s3, s4⟩ := hSw; go_simp) <;> with_reducible rfl
                  try simp only [Act.put, List.setIfInBounds_toArray, List.set_cons_zero, List.set_cons_succ]
                  refine wpAnyH_take (i := 3) (oi := { dst := some 112, op := Op.nilCheck (Operand.tmp 111), type := 0, pos := "law.go:140", after := #[{ on := 2, ground := Ground.data }], guard := none }) (v := ?_) rfl (by kernel_rfl) (by kernel_rfl) (by kernel_rfl) (fun _ _ _ h => h) (Or.inl ⟨by rfl, ?_⟩) (by assumption) ?_
                  rotate_left
                  · (intro w hSw; (try dsimp only at hSw); obtain ⟨s0, s1, s2, s3, s4⟩ := hSw; go_simp) <;> with_reducible rfl
                  try simp only [Act.put, List.setIfInBounds_toArray, List.set_cons_zero, List.set_cons_succ]
                  refine wpAnyH_take (i := 4) (oi := { dst := some 113, op := Op.fieldAddr 37 (Operand.tmp 112) 2, type := 0, pos := "law.go:140", after := #[{ on := 3, ground := Ground.data }], guard := none }) (v := ?_) rfl (by kernel_rfl) (by kernel_rfl) (by kernel_rfl) (fun _ _ _ h => h) (Or.inl ⟨by rfl, ?_⟩) (by assumption) ?_
                  rotate_left
                  · (intro w hSw; (try dsimp only at hSw); obtain ⟨s0, s1, s2, s3, s4⟩ := hSw; go_simp) <;> with_reducible rfl
                  try simp only [Act.put, List.setIfInBounds_toArray, List.set_cons_zero, List.set_cons_succ]
                  refine wpAnyH_take (i := 5) (oi := { dst := some 114, op := Op.load 35 (Operand.tmp 113), type := 35, pos := "law.go:140", after := #[{ on := 4, ground := Ground.data }], guard := none }) (v := ?_) rfl (by kernel_rfl) (by kernel_rfl) (by kernel_rfl) (fun _ _ _ h => h) (Or.inl ⟨by rfl, ?_⟩) (by assumption) ?_
                  rotate_left
                  · (intro w hSw; (try dsimp only at hSw); obtain ⟨s0, s1, s2, s3, s4⟩ := hSw; go_simp) <;> with_reducible rfl
                  try simp only [Act.put, List.setIfInBounds_toArray, List.set_cons_zero, List.set_cons_succ]
                  refine wpAnyH_take (i := 6) (oi := { dst := some 115, op := Op.move (Operand.tmp 18), type := 3, pos := "law.go:140", after := #[], guard := none }) (v := ?_) rfl (by kernel_rfl) (by kernel_rfl) (by kernel_rfl) (fun _ _ _ h => h) (Or.inl ⟨by rfl, ?_⟩) (by assumption) ?_
                  rotate_left
                  · (intro w hSw; (try dsimp only at hSw); obtain ⟨s0, s1, s2, s3, s4⟩ := hSw; go_simp) <;> with_reducible rfl
                  try simp only [Act.put, List.setIfInBounds_toArray, List.set_cons_zero, List.set_cons_succ]
                  refine wpAnyH_take (i := 7) (oi := { dst := some 116, op := Op.indexAddr 26 (Operand.tmp 8) (Operand.tmp 115), type := 0, pos := "law.go:140", after := #[{ on := 6, ground := Ground.data }], guard := none }) (v := ?_) rfl (by kernel_rfl) (by kernel_rfl) (by kernel_rfl) (fun _ _ _ h => h) (Or.inl ⟨by rfl, ?_⟩) (by assumption) ?_
                  rotate_left
                  · (intro w hSw; (try dsimp only at hSw); obtain ⟨s0, s1, s2, s3, s4⟩ := hSw; go_simp) <;> with_reducible rfl
                  try simp only [Act.put, List.setIfInBounds_toArray, List.set_cons_zero, List.set_cons_succ]
                  refine wpAnyH_take (i := 8) (oi := { dst := some 117, op := Op.load 25 (Operand.tmp 116), type := 25, pos := "law.go:140", after := #[{ on := 7, ground := Ground.data }], guard := none }) (v := ?_) rfl (by kernel_rfl) (by kernel_rfl) (by kernel_rfl) (fun _ _ _ h => h) (Or.inl ⟨by rfl, ?_⟩) (by assumption) ?_
                  rotate_left
                  · (intro w hSw; (try dsimp only at hSw); obtain ⟨s0, s1, s2, s3, s4⟩ := hSw; go_simp) <;> with_reducible rfl
                  try simp only [Act.put, List.setIfInBounds_toArray, List.set_cons_zero, List.set_cons_succ]
                  refine wpAnyH_take (i := 9) (oi := { dst := some 118, op := Op.nilCheck (Operand.tmp 117), type := 0, pos := "law.go:140", after := #[{ on := 8, ground := Ground.data }], guard := none }) (v := ?_) rfl (by kernel_rfl) (by kernel_rfl) (by kernel_rfl) (fun _ _ _ h => h) (Or.inl ⟨by rfl, ?_⟩) (by assumption) ?_
                  rotate_left
                  · (intro w hSw; (try dsimp only at hSw); obtain ⟨s0, s1, s2, s3, s4⟩ := hSw; go_simp) <;> with_reducible rfl
                  try simp only [Act.put, List.setIfInBounds_toArray, List.set_cons_zero, List.set_cons_succ]
                  refine wpAnyH_take (i := 10) (oi := { dst := some 119, op := Op.fieldAddr 37 (Operand.tmp 118) 3, type := 0, pos := "law.go:140", after := #[{ on := 9, ground := Ground.data }], guard := none }) (v := ?_) rfl (by kernel_rfl) (by kernel_rfl) (by kernel_rfl) (fun _ _ _ h => h) (Or.inl ⟨by rfl, ?_⟩) (by assumption) ?_
                  rotate_left
                  · (intro w hSw; (try dsimp only at hSw); obtain ⟨s0, s1, s2, s3, s4⟩ := hSw; go_simp) <;> with_reducible rfl
                  try simp only [Act.put, List.setIfInBounds_toArray, List.set_cons_zero, List.set_cons_succ]
                  refine wpAnyH_take (i := 11) (oi := { dst := some 120, op := Op.load 35 (Operand.tmp 119), type := 35, pos := "law.go:140", after := #[{ on := 10, ground := Ground.data }], guard := none }) (v := ?_) rfl (by kernel_rfl) (by kernel_rfl) (by kernel_rfl) (fun _ _ _ h => h) (Or.inl ⟨by rfl, ?_⟩) (by assumption) ?_
                  rotate_left
                  · (intro w hSw; (try dsimp only at hSw); obtain ⟨s0, s1, s2, s3, s4⟩ := hSw; go_simp) <;> with_reducible rfl
                  try simp only [Act.put, List.setIfInBounds_toArray, List.set_cons_zero, List.set_cons_succ]
                  refine wpAnyH_ready (rs := [12]) (by kernel_rfl) (by simp) ?_
                  refine AllReadyH.cons (o := { dst := some 121, op := Op.call { callee := Callee.value (Operand.func 9), args := #[Operand.tmp 114, Operand.tmp 120], argTypes := #[35, 35] }, type := 4, pos := "law.go:140", after := #[{ on := 5, ground := Ground.data }, { on := 11, ground := Ground.data }], guard := none }) rfl (fun K hK => ?_) AllReadyH.nil
                  go_simp
                  refine Calls.mono (HEQ.out _ rfl) ?_
                  rintro _ w3 ⟨rfl, n3, hw3⟩
                  have H3 : Hid (LaB wo w3 D g k) := by
                    rw [hw3]
                    exact ⟨(H2.out.kept.drewN 1).drewN n3, H2.out.hg, by obtain ⟨a, b, q⟩ := H2.out.bag; exact ⟨a, b, q.row, q.bs, q.me⟩⟩
                  clear hw3
                  clear hHeld
                  refine hK.out _ _ (HES.out _ H3.out.kept) (fun hHeld => ?_)
                  clear hK K
                  refine wpAnyH_take (i := 13) (oi := { dst := some 20, op := Op.assign (Operand.tmp 121), type := 4, pos := "law.go:140", after := #[{ on := 12, ground := Ground.data }, { on := 12, ground := Ground.chain }, { on := 0, ground := Ground.phase }, { on := 1, ground := Ground.phase }, { on := 2, ground := Ground.phase }, { on := 3, ground := Ground.phase }, { on := 4, ground := Ground.phase }, { on := 5, ground := Ground.phase }, { on := 6, ground := Ground.phase }, { on := 7, ground := Ground.phase }, { on := 8, ground := Ground.phase }, { on := 9, ground := Ground.phase }, { on := 10, ground := Ground.phase }, { on := 11, ground := Ground.phase }, { on := 12, ground := Ground.phase }], guard := none }) (v := ?_) rfl (by kernel_rfl) (by kernel_rfl) (by kernel_rfl) (fun _ _ _ h => h) (Or.inl ⟨by rfl, ?_⟩) (by assumption) ?_
                  rotate_left
                  · (intro w hSw; (try dsimp only at hSw); obtain ⟨s0, s1, s2, s3, s4⟩ := hSw; go_simp) <;> with_reducible rfl
                  try simp only [Act.put, List.setIfInBounds_toArray, List.set_cons_zero, List.set_cons_succ]
                  refine wpAnyH_done (by kernel_rfl) ?_ _
                  clear hHeld HEQ H2
                  obtain ⟨bv, mv, hbg⟩ := H3.out.bag
                  have hrow := (HRR.out.1.new H3.out.kept).ko.row
                  rw [HKV.out.1] at hrow
                  have HAM : Hid _ := addMessages_m g bv mv (psK (RsK D k)) ((RsK D k).map (fun x => x.2.kv)) wo.heap.size ka R.K.length kc (gFlat R.K) w3 hbg (by rw [List.length_map]; have := RsK_len D k; omega) H3.out.kept.size (by omega) hrow (fun j hj => by
                    obtain ⟨a, c2, e⟩ := rowSl (HRR.out.1.ko.own _ (List.getElem_mem hj))
                    exact ⟨a, _, c2, by rw [← e]; exact gFlat_at R.K j _ (List.getElem?_eq_getElem hj) 2 _ rfl⟩)
                  have HMV : Hid (BagM w3 g bv mv ((psK (RsK D k)).take 600) ((RsK D k).map (fun x => x.2.kv)) wo.heap.size) := hbg
                  obtain ⟨s0, s1, s2, s3, s4⟩ := HES.out _ H3.out.kept
                  clear hbg hrow
                  go_wp2_with fail
                  refine Calls.mono HAM.out ?_
                  rintro _ w4 ⟨rfl, bv4, mv4, hbg4, hk4⟩
                  have H4 : Hid (LaB wo w4 D g (k + 1)) := by
                    refine ⟨H3.out.kept.trans hk4 (fun j hj e => ?_), H3.out.hg, bv4, mv4, ?_⟩
                    · rcases e with e | e | e
                      · have := H3.out.hg; omega
                      · have := (HMV.out.me.lt j e).1; omega
                      · have := (HMV.out.bs.lt j e).1; omega
                    · rw [RsK_some HRR.out.2.2, psK_app, psK_one, List.map_append]
                      have e1 : [(k, R)].map (fun x => x.2.kv) = [Value.slice ka R.K.length kc] := by
                        rw [← HKV.out.1]
                        rfl
                      rw [e1]
                      exact hbg4
                  clear hbg4 hk4 HAM HMV s0 s1 s2 s3 s4 H3
                  go_wp2
                  go_roundw
                  case rel => exact ⟨k + 1, by omega, rfl, by go_num, H4.out⟩
                  case measure => simp [intOf]; omega
              · have dk : decide ((k : Int) < 2) = false := by simp; omega
                obtain rfl : k = 2 := by omega
                have HAP : Hid (Calls Tryd.prog 11 #[.pointer (some ⟨g, 0, none⟩)] wr fun e w' => e = .returned (.bool true) ∧ Below w.heap.size w w') := by
                  obtain ⟨bv, mv, hbg⟩ := HL.out.bag
                  have hbe := (HP.out.new HL.out.kept).be
                  refine Calls.mono (lastApart (own := own) (fun x hx => ?_) (RsK_nodup D 2) (by have := RsK_len D 2; omega) hbg (HT.out _ hbe).1 (HT.out _ hbe).2 (fun e => by have := HP.out.lo _ e; have := HG0.out; omega)) ?_
                  · obtain ⟨h1, h2⟩ := RsK_mem hx
                    rcases HDD.out x.1 h1 with ⟨e, _⟩ | ⟨R, e, _, hq, _, _, _, hl2⟩
                    · rw [h2] at e; cases e
                    · rw [h2] at e
                      cases e
                      exact ⟨hq.new HL.out.kept, by omega, by omega⟩
                  · rintro e w' ⟨rfl, hk⟩
                    exact ⟨rfl, hbe.trans (hk.below hbe.size (fun k e => HP.out.lo k e))⟩
                have zg : g < wr.heap.size := by obtain ⟨_, _, q⟩ := HL.out.bag; exact lt_of_block q.row
                clear HL HP HDD
                go_wp2_with fail
                refine Calls.mono HAP.out ?_
                rintro _ w9 ⟨rfl, hB9⟩
                have HE : Hid (Below w.heap.size w w9) := hB9
                clear hB9 HAP
                go_wp2
                all_goals (go_ret; exact ⟨rfl, HE.out⟩)
end Go.Proofs.YtghngopclhhoeaaDoor
