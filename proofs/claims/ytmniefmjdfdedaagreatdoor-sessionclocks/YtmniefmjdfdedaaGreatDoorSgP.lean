/- SessionClocks' walk. -/
import Derived.Test.YtmniefmjdfdedaaGreatDoorSgO
namespace Go.Proofs.YtmniefmjdfdedaaGreatDoor
open Go.RowKit Go.Shelf
set_option maxRecDepth 8000
set_option linter.unusedSimpArgs false
set_option linter.unusedVariables false

theorem i64_and1g (n : Int) : bits .and .i64 n 1 = n % 2 := by
  have h1 : (BitVec.ofInt 64 1).toNat = 2 ^ 1 - 1 := by decide
  have key : (BitVec.ofInt 64 n &&& BitVec.ofInt 64 1).toNat = (n % ((2 ^ 64 : Nat) : Int)).toNat % 2 ^ 1 := by
    rw [BitVec.toNat_and, BitVec.toNat_ofInt, h1, Nat.and_two_pow_sub_one_eq_mod]
  show IntKind.i64.wrap ((BitVec.ofInt 64 n &&& BitVec.ofInt 64 1).toNat : Nat) = n % 2
  rw [key, IntKind.wrap_i64]
  omega
/-- New memory is nobody's, old memory is another's. -/
def own0 (n k : Nat) : Nat := if k < n then 9 else 7
theorem pr_start {w W : World} {xw xs : Nat} {one two : Int} (bw : W.heap[xw]? = some (.cells #[.pointer none, .pointer none] 25 (0, 0))) (bs : W.heap[xs]? = some (.cells #[.int .i64 one, .int .i64 two] 26 (0, 0))) (h1 : w.heap.size ≤ xw) (h2 : w.heap.size ≤ xs) (be : Below w.heap.size w W) : ∃ own c, Pr w W own xw xs c one two 0 0 := by
  refine ⟨own0 w.heap.size, fun _ => .pointer none, bw, bs, ?_, ?_, fun q _ _ => .inl rfl, fun k e => ?_, be⟩
  · unfold own0; rw [if_neg (by omega)]
  · unfold own0; rw [if_neg (by omega)]
  · unfold own0 at e
    split at e <;> omega
theorem cellG {w wr : World} {a : Nat} {i : Nat} {v : Value} (hb : Below w.heap.size w wr) (h : w.cell? ⟨a, i, none⟩ = some v) : wr.cell? ⟨a, i, none⟩ = some v := (kept_of_belowS hb : Kept w wr (fun _ => False)).cell h (fun e => e)

section
variable {w W W' : World} {own : Nat → Nat} {xw xs : Nat} {c : Nat → Value} {one two : Int} {k0 k1 : Nat} {T T' : Int}
theorem Pr.more (h : Pr w W own xw xs c one two k0 T) (hT : T ≤ T') (hk : k0 ≤ k1) : Pr w W own xw xs c one two k1 T' := by
  refine ⟨h.bw, h.bs, h.ow, h.os, fun q h0 h1 => ?_, h.lo, h.be⟩
  rcases h.s q (by omega) h1 with e | ⟨R, e, ho, f⟩
  · exact .inl e
  · exact .inr ⟨R, e, ho, f.more hT⟩
end
set_option maxHeartbeats 8000000 in
theorem clocks_walk {w : World} {one two : Int} {sv : Value} {sc : List OpS} (hsc : SeesOpS w sv sc) (hscl : sc.length ≤ 140737488355328) :
    Calls Tryz.prog 3 #[.int .i64 one, .int .i64 two, sv] w fun e w' => e = .returned (.bool true) ∧ Below w.heap.size w w' := by
  obtain ⟨so, sp, rfl, hsp, _, hsx⟩ := hsc
  have HX : Hid (sc ≠ [] → ∃ b off, so = some ⟨b, off, none⟩ ∧ ∀ i s, sc[i]? = some s → ∀ j u, s.cells[j]? = some u → w.cell? ⟨b, off + i * 5 + j, none⟩ = some u) := hsx
  clear hsx
  go_enter Tryz.func3, Tryz.ntmps3
  go_wp2_with fail
  go_at_call 4
  refine Calls.mono (works19 w) ?_
  rintro e w1 ⟨rfl, hB1⟩
  have HB1 : Hid (Below w.heap.size w w1) := hB1
  clear hB1
  by_cases hbig : 4194304 < sc.length
  · have dl : decide ((4194304 : Int) < (sc.length : Int)) = true := by simp; omega
    go_wp2
    all_goals (go_ret; exact ⟨rfl, HB1.out⟩)
  · have dl : decide ((4194304 : Int) < (sc.length : Int)) = false := by simp; omega
    go_upto_region 6 with fail
    have HP0 : Hid (∃ own c, Pr w ((w1.alloc (.cells #[.pointer none, .pointer none] 25)).alloc (.cells #[.int .i64 one, .int .i64 two] 26)) own w1.heap.size (w1.heap.size + 1) c one two 0 0) := by
      have B1 : Below w1.heap.size w1 (w1.alloc (.cells #[.pointer none, .pointer none] 25)) := (Below.refl _ _).alloc (Nat.le_refl _) _
      have B2 : Below (w1.alloc (.cells #[.pointer none, .pointer none] 25)).heap.size (w1.alloc (.cells #[.pointer none, .pointer none] 25)) ((w1.alloc (.cells #[.pointer none, .pointer none] 25)).alloc (.cells #[.int .i64 one, .int .i64 two] 26)) := (Below.refl _ _).alloc (Nat.le_refl _) _
      have n1 := heap_alloc_new w1 (.cells #[.pointer none, .pointer none] 25 (0, 0))
      have n2 := heap_alloc_new (w1.alloc (.cells #[.pointer none, .pointer none] 25)) (.cells #[.int .i64 one, .int .i64 two] 26 (0, 0))
      rw [World.size_alloc] at n2
      have hz := HB1.out.size
      exact pr_start ((kept_of_belowS B2 : Kept _ _ (fun _ => False)).heap n1 id) n2 hz (by omega) (HB1.out.trans ((B1.trans (B2.mono B1.size)).mono hz))
    clear HB1
    generalize ((w1.alloc (.cells #[.pointer none, .pointer none] 25)).alloc (.cells #[.int .i64 one, .int .i64 two] 26)) = w2 at *
    generalize w1.heap.size + 1 = xs at *
    generalize w1.heap.size = xw at *
    clear w1
    go_wp2
    go_loopw [10] (fun vk wr => ∃ k : Nat, k ≤ 2 ∧ vk = .int .i64 (k : Int) ∧ Hid (∃ own c, Pr w wr own xw xs c one two 0 0)) (fun vk _ => 2 - (intOf vk).toNat)
    case atStart => exact ⟨0, by omega, rfl, HP0.out⟩
    case round =>
      clear HP0
      obtain ⟨k, hk, rfl, HD⟩ := hrel
      by_cases hk2 : k < 2
      · have dk : decide ((k : Int) < 2) = true := by simp; omega
        have hkI : (k : Int) < 2 := by omega
        have hkJ : (0 : Int) ≤ (k : Int) := by omega
        obtain ⟨own, c, hP⟩ := HD.out
        have HP : Hid (Pr w wr own xw xs c one two 0 0) := hP
        obtain ⟨sp0, hsp0⟩ : ∃ s, s = (if k = 0 then one else two) := ⟨_, rfl⟩
        have HS : Hid ((if k = 0 then one else two) = sp0) := hsp0.symm
        have c0 := hP.cs hk2
        rw [HS.out] at c0
        have z0 : xs < wr.heap.size := lt_of_block hP.bs
        clear hP HD hsp0
        by_cases hs : 1 ≤ sp0 ∧ sp0 ≤ 1000
        · have HN : Hid _ := new_yes sp0 wr hs.1 hs.2
          go_wp2_with fail
          go_at_call 5
          refine Calls.mono HN.out ?_
          rintro e v1 ⟨rfl, hck, hB1⟩
          have H1 : Hid (Ck v1 (wr.heap.size + 2) (wr.heap.size + 1) wr.heap.size 0 sp0 [] ∧ Below wr.heap.size wr v1 ∧ Pr w v1 own xw xs c one two 0 0) := ⟨hck, hB1, HP.out.below hB1⟩
          clear hck hB1 c0 z0 HN
          have c0 := H1.out.2.2.cs hk2
          rw [HS.out] at c0
          have z0 : xs < v1.heap.size := lt_of_block H1.out.2.2.bs
          have HN : Hid _ := refNewC sp0 v1 hs.1 hs.2
          go_wp2_with fail
          go_at_call 6
          refine Calls.mono HN.out ?_
          rintro e v2 ⟨rfl, hdc, hB2⟩
          have H2 : Hid (∃ own c, Pr w ((v2.alloc (.cells #[.pointer (some ⟨wr.heap.size + 2, 0, none⟩), .pointer (some ⟨v1.heap.size, 0, none⟩), .slice none 0 0, .slice none 0 0] 36)).setCell ⟨xw, k, none⟩ (.pointer (some ⟨v2.heap.size, 0, none⟩))) own xw xs c one two 0 0) := by
            have hck := H1.out.1
            have := hck.lt (.inl rfl)
            have := hck.lt (.inr (.inl rfl))
            have := hck.lt (.inr (.inr rfl))
            exact HP.out.put hk2 (H1.out.2.1.trans (hB2.mono H1.out.2.1.size)) (hck.kept (kept_of_belowS hB2 : Kept _ _ (fun _ => False)) (fun _ _ e => e)) hdc ⟨by omega, by omega, by omega, H1.out.2.1.size⟩ hs.1 hs.2
          have hP2 : Pr w v2 own xw xs c one two 0 0 := H1.out.2.2.below hB2
          have B3 : Below v2.heap.size v2 (v2.alloc (.cells #[.pointer (some ⟨wr.heap.size + 2, 0, none⟩), .pointer (some ⟨v1.heap.size, 0, none⟩), .slice none 0 0, .slice none 0 0] 36)) := (Below.refl _ _).alloc (Nat.le_refl _) _
          have hP3 := hP2.below B3
          have c3 := hP2.cw hk2
          have z3 : xw < v2.heap.size := lt_of_block hP2.bw
          have f3 : v2.frozen? ⟨xw, k, none⟩ = false := by simp [World.frozen?, hP2.bw]
          have c4 := hP3.cw hk2
          have f4 : (v2.alloc (.cells #[.pointer (some ⟨wr.heap.size + 2, 0, none⟩), .pointer (some ⟨v1.heap.size, 0, none⟩), .slice none 0 0, .slice none 0 0] 36)).frozen? ⟨xw, k, none⟩ = false := by simp [World.frozen?, hP3.bw]
          have H3 : Hid (∃ own c, Pr w ((v2.setCell ⟨xw, k, none⟩ (.pointer (some ⟨v2.heap.size, 0, none⟩))).alloc (.cells #[.pointer (some ⟨wr.heap.size + 2, 0, none⟩), .pointer (some ⟨v1.heap.size, 0, none⟩), .slice none 0 0, .slice none 0 0] 36)) own xw xs c one two 0 0) := by
            rw [← World.setCell_alloc_past _ _ _ _ z3]
            exact H2.out
          clear hdc hB2 hP2 B3 hP3 H1 HN HP c0 z0 HS H2
          go_wp2
          go_roundw
          case rel => exact ⟨k + 1, by omega, by go_num, H3.out⟩
          case measure => simp [intOf]; omega
        · have hs2 : sp0 < 1 ∨ 1000 < sp0 := by omega
          have HN : Hid _ := new_no sp0 wr hs2
          go_wp2_with fail
          go_at_call 5
          refine Calls.mono HN.out ?_
          rintro e v1 ⟨rfl, hB1⟩
          have H1 : Hid (Pr w v1 own xw xs c one two 0 0) := HP.out.below hB1
          clear hB1 c0 z0 HN HP
          have c0 := H1.out.cs hk2
          rw [HS.out] at c0
          have z0 : xs < v1.heap.size := lt_of_block H1.out.bs
          have HN : Hid _ := refNewC_no sp0 v1 hs2
          go_wp2_with fail
          go_at_call 6
          refine Calls.mono HN.out ?_
          rintro e v2 ⟨rfl, hv2⟩
          rw [hv2]
          clear HN hv2
          go_wp2
          go_roundw
          case rel => exact ⟨k + 1, by omega, by go_num, own, c, H1.out⟩
          case measure => simp [intOf]; omega
      · have dk : decide ((k : Int) < 2) = false := by simp; omega
        clear hk hk2
        go_wp2
        clear dk
        go_loopw [7, 15] (fun vo vi wr => ∃ i : Nat, i ≤ sc.length ∧ vo = .bool true ∧ vi = .int .i64 (i : Int) ∧ Hid (∃ own c, Pr w wr own xw xs c one two 0 (40 * (i : Int)))) (fun _ vi _ => sc.length - (intOf vi).toNat)
        case atStart => exact ⟨0, by omega, rfl, rfl, HD.out⟩
        case round =>
          clear HD
          obtain ⟨i, hi, rfl, rfl, HD⟩ := hrel
          by_cases hlt : i < sc.length
          · have hd : decide ((i : Int) < (sc.length : Int)) = true := by simp; omega
            obtain ⟨s, hs⟩ : ∃ s, sc[i]? = some s := ⟨_, List.getElem?_eq_getElem hlt⟩
            obtain ⟨sb, off, hso, hcx⟩ := HX.out (fun e => by rw [e] at hlt; simp at hlt)
            obtain ⟨own, c, hP⟩ := HD.out
            obtain ⟨kk, hkk⟩ : ∃ kk : Nat, s.on % 2 = (kk : Int) := ⟨(s.on % 2).toNat, by omega⟩
            have hk2 : kk < 2 := by omega
            have hkI : (kk : Int) < 2 := by omega
            have hkJ : (0 : Int) ≤ (kk : Int) := by omega
            have ige : (0 : Int) ≤ (i : Int) := by omega
            have ilt : (i : Int) < (sc.length : Int) := by omega
            have hand : bits .and .i64 s.on 1 = (kk : Int) := by rw [i64_and1g, hkk]
            clear hkk
            have cw := hP.cw hk2
            have zw : xw < wr.heap.size := lt_of_block hP.bw
            have co : wr.cell? ⟨sb, off + i * 5 + 1, none⟩ = some (.int .i64 s.on) := cellG hP.be (hcx i s hs 1 _ rfl)
            have zs : sb < wr.heap.size := World.block_lt_of_cell? wr _ co
            have HP : Hid (Pr w wr own xw xs c one two 0 (40 * (i : Int))) := hP
            rcases hP.s kk (by omega) hk2 with hnil | ⟨R, hR, ho, hf⟩
            · rw [hnil] at cw
              subst hso
              clear hP hcx hs hnil
              go_wp2
              go_roundw
              case rel => exact ⟨i + 1, by omega, rfl, by go_num, own, c, HP.out.more (by omega) (Nat.le_refl _)⟩
              case measure => simp [intOf]; omega
            · have HG : Hid (∀ V, (∃ own' T', Pr w V own' xw xs c one two 0 T') → V.cell? ⟨xw, kk, none⟩ = some (.pointer (some ⟨R.x, 0, none⟩)) ∧ V.cell? ⟨sb, off + i * 5, none⟩ = some (.int .i64 s.kind) ∧ V.cell? ⟨sb, off + i * 5 + 1, none⟩ = some (.int .i64 s.on) ∧ V.cell? ⟨sb, off + i * 5 + 2, none⟩ = some (.int .i64 s.id) ∧ V.cell? ⟨sb, off + i * 5 + 3, none⟩ = some (.int .i32 s.tm) ∧ V.cell? ⟨sb, off + i * 5 + 4, none⟩ = some (.int .i64 s.n)) := by
                rintro V ⟨o', T', h⟩
                have q := h.cw hk2
                rw [hR] at q
                exact ⟨q, cellG h.be (hcx i s hs 0 _ rfl), cellG h.be (hcx i s hs 1 _ rfl), cellG h.be (hcx i s hs 2 _ rfl), cellG h.be (hcx i s hs 3 _ rfl), cellG h.be (hcx i s hs 4 _ rfl)⟩
              have hbd : Below wr.heap.size wr wr.drew := ((Kept.refl wr (fun _ => False)).drewN 1).below (Nat.le_refl _) (fun _ e => e.elim)
              have HCl : Hid (Calls Tryz.prog 7 #[.pointer (some ⟨R.x, 0, none⟩), .agg #[.int .i64 s.kind, .int .i64 s.on, .int .i64 s.id, .int .i32 s.tm, .int .i64 s.n]] wr.drew fun e w' => e = .returned (.bool true) ∧ Hid (∃ own', Pr w w' own' xw xs c one two 0 (40 * (i : Int) + 40))) := by
                have hod := ho.belowO hbd
                refine Calls.mono (does_any (by omega) hod hf (by omega) s) ?_
                rintro e w' ⟨rfl, hD⟩
                obtain ⟨own', R', h1, h2, h3, h4, h5⟩ := hD.out
                exact ⟨rfl, own', (hP.below hbd).step (by omega) h5 hod.lo h4 (by omega) (Nat.le_refl _) (fun _ _ => .inr ⟨R', by rw [hR, h3.1], h1, h2⟩)⟩
              have hG0 := HG.out wr ⟨own, _, hP⟩
              rw [hR] at cw
              subst hso
              clear hP hcx hs hbd ho hf HP HD
              go_upto_region 20 with fail
              refine wp_region_held_drew (S := (fun V => V.cell? ⟨xw, kk, none⟩ = some (.pointer (some ⟨R.x, 0, none⟩)) ∧ V.cell? ⟨sb, off + i * 5, none⟩ = some (.int .i64 s.kind) ∧ V.cell? ⟨sb, off + i * 5 + 1, none⟩ = some (.int .i64 s.on) ∧ V.cell? ⟨sb, off + i * 5 + 2, none⟩ = some (.int .i64 s.id) ∧ V.cell? ⟨sb, off + i * 5 + 3, none⟩ = some (.int .i32 s.tm) ∧ V.cell? ⟨sb, off + i * 5 + 4, none⟩ = some (.int .i64 s.n))) (by kernel_rfl) ?_ (fun hHeld => ?_)
              · exact hG0
              refine wpAnyH_take (i := 0) (oi := { dst := some 82, op := Op.move (Operand.tmp 16), type := 3, pos := "law.go:164", after := #[], guard := none }) (v := ?_) rfl (by kernel_rfl) (by kernel_rfl) (by kernel_rfl) (fun _ _ _ h => h) (Or.inl ⟨by rfl, ?_⟩) (by assumption) ?_
              rotate_left
              · (intro w hSw; (try dsimp only at hSw); go_simp) <;> with_reducible rfl
              try simp only [Act.put, List.setIfInBounds_toArray, List.set_cons_zero, List.set_cons_succ]
              refine wpAnyH_take (i := 1) (oi := { dst := some 83, op := Op.indexAddr 25 (Operand.tmp 8) (Operand.tmp 82), type := 0, pos := "law.go:164", after := #[{ on := 0, ground := Ground.data }], guard := none }) (v := ?_) rfl (by kernel_rfl) (by kernel_rfl) (by kernel_rfl) (fun _ _ _ h => h) (Or.inl ⟨by rfl, ?_⟩) (by assumption) ?_
              rotate_left
              · (intro w hSw; (try dsimp only at hSw); go_simp) <;> with_reducible rfl
              try simp only [Act.put, List.setIfInBounds_toArray, List.set_cons_zero, List.set_cons_succ]
              refine wpAnyH_take (i := 2) (oi := { dst := some 84, op := Op.load 24 (Operand.tmp 83), type := 24, pos := "law.go:164", after := #[{ on := 1, ground := Ground.data }], guard := none }) (v := ?_) rfl (by kernel_rfl) (by kernel_rfl) (by kernel_rfl) (fun _ _ _ h => h) (Or.inl ⟨by rfl, ?_⟩) (by assumption) ?_
              rotate_left
              · (intro w hSw; (try dsimp only at hSw); go_simp) <;> with_reducible rfl
              try simp only [Act.put, List.setIfInBounds_toArray, List.set_cons_zero, List.set_cons_succ]
              refine wpAnyH_take (i := 3) (oi := { dst := some 85, op := Op.move (Operand.tmp 2), type := 22, pos := "law.go:164", after := #[], guard := none }) (v := ?_) rfl (by kernel_rfl) (by kernel_rfl) (by kernel_rfl) (fun _ _ _ h => h) (Or.inl ⟨by rfl, ?_⟩) (by assumption) ?_
              rotate_left
              · (intro w hSw; (try dsimp only at hSw); go_simp) <;> with_reducible rfl
              try simp only [Act.put, List.setIfInBounds_toArray, List.set_cons_zero, List.set_cons_succ]
              refine wpAnyH_take (i := 4) (oi := { dst := some 86, op := Op.move (Operand.tmp 15), type := 3, pos := "law.go:164", after := #[], guard := none }) (v := ?_) rfl (by kernel_rfl) (by kernel_rfl) (by kernel_rfl) (fun _ _ _ h => h) (Or.inl ⟨by rfl, ?_⟩) (by assumption) ?_
              rotate_left
              · (intro w hSw; (try dsimp only at hSw); go_simp) <;> with_reducible rfl
              try simp only [Act.put, List.setIfInBounds_toArray, List.set_cons_zero, List.set_cons_succ]
              refine wpAnyH_take (i := 5) (oi := { dst := some 87, op := Op.indexAddr 22 (Operand.tmp 85) (Operand.tmp 86), type := 0, pos := "law.go:164", after := #[{ on := 3, ground := Ground.data }, { on := 4, ground := Ground.data }], guard := none }) (v := ?_) rfl (by kernel_rfl) (by kernel_rfl) (by kernel_rfl) (fun _ _ _ h => h) (Or.inl ⟨by rfl, ?_⟩) (by assumption) ?_
              rotate_left
              · (intro w hSw; (try dsimp only at hSw); go_simp) <;> with_reducible rfl
              try simp only [Act.put, List.setIfInBounds_toArray, List.set_cons_zero, List.set_cons_succ]
              refine wpAnyH_take (i := 6) (oi := { dst := some 88, op := Op.load 38 (Operand.tmp 87), type := 38, pos := "law.go:164", after := #[{ on := 5, ground := Ground.data }], guard := none }) (v := ?_) rfl (by kernel_rfl) (by kernel_rfl) (by kernel_rfl) (fun _ _ _ h => h) (Or.inl ⟨by rfl, ?_⟩) (by assumption) ?_
              rotate_left
              · (intro w hSw; (try dsimp only at hSw); go_simp) <;> with_reducible rfl
              try simp only [Act.put, List.setIfInBounds_toArray, List.set_cons_zero, List.set_cons_succ]
              refine wpAnyH_ready (rs := [7]) (by kernel_rfl) (by simp) ?_
              refine AllReadyH.cons (o := { dst := some 89, op := Op.call { callee := Callee.value (Operand.func 7), args := #[Operand.tmp 84, Operand.tmp 88], argTypes := #[24, 38] }, type := 4, pos := "law.go:164", after := #[{ on := 2, ground := Ground.data }, { on := 6, ground := Ground.data }], guard := none }) rfl (fun K hK => ?_) AllReadyH.nil
              go_simp
              refine Calls.mono HCl.out ?_
              rintro r1 w1 ⟨rfl, hP1⟩
              have HP1 : Hid (∃ own', Pr w w1 own' xw xs c one two 0 (40 * (i : Int) + 40)) := hP1.out
              clear hP1 HCl
              refine hK.out _ _ (HG.out w1 (by obtain ⟨o, h⟩ := HP1.out; exact ⟨o, _, h⟩)) (fun hHeld => ?_)
              clear hK K
              refine wpAnyH_take (i := 8) (oi := { dst := some 7, op := Op.assign (Operand.tmp 89), type := 4, pos := "law.go:164", after := #[{ on := 7, ground := Ground.data }, { on := 7, ground := Ground.chain }, { on := 0, ground := Ground.phase }, { on := 1, ground := Ground.phase }, { on := 2, ground := Ground.phase }, { on := 3, ground := Ground.phase }, { on := 4, ground := Ground.phase }, { on := 5, ground := Ground.phase }, { on := 6, ground := Ground.phase }, { on := 7, ground := Ground.phase }], guard := none }) (v := ?_) rfl (by kernel_rfl) (by kernel_rfl) (by kernel_rfl) (fun _ _ _ h => h) (Or.inl ⟨by rfl, ?_⟩) (by assumption) ?_
              rotate_left
              · (intro w hSw; (try dsimp only at hSw); go_simp) <;> with_reducible rfl
              try simp only [Act.put, List.setIfInBounds_toArray, List.set_cons_zero, List.set_cons_succ]
              refine wpAnyH_done (by kernel_rfl) ?_ _
              clear hHeld hG0
              go_wp2
              go_roundw
              case rel =>
                obtain ⟨o, h⟩ := HP1.out
                exact ⟨i + 1, by omega, rfl, by go_num, o, c, by rw [show (40 : Int) * ((i + 1 : Nat) : Int) = 40 * (i : Int) + 40 by omega]; exact h⟩
              case measure => simp [intOf]; omega
          · have hd : decide ((i : Int) < (sc.length : Int)) = false := by simp; omega
            obtain ⟨T, hT⟩ : ∃ T : Int, T = 40 * (i : Int) := ⟨_, rfl⟩
            have HE : Hid (∃ own c, Pr w wr own xw xs c one two 0 T) := by rw [hT]; exact HD.out
            clear HD hT
            go_wp2
            clear hd
            go_loopw [7, 17] (fun vo vk wr => ∃ k : Nat, k ≤ 2 ∧ vo = .bool true ∧ vk = .int .i64 (k : Int) ∧ Hid (∃ own c, Pr w wr own xw xs c one two k T)) (fun _ vk _ => 2 - (intOf vk).toNat)
            case atStart => exact ⟨0, by omega, rfl, rfl, HE.out⟩
            case round =>
              clear HE
              obtain ⟨k, hk, rfl, rfl, HD⟩ := hrel
              by_cases hk2 : k < 2
              · have dk : decide ((k : Int) < 2) = true := by simp; omega
                have hkI : (k : Int) < 2 := by omega
                have hkJ : (0 : Int) ≤ (k : Int) := by omega
                obtain ⟨own, c, hP⟩ := HD.out
                have HP : Hid (Pr w wr own xw xs c one two k T) := hP
                have cw := hP.cw hk2
                have zw : xw < wr.heap.size := lt_of_block hP.bw
                rcases hP.s k (Nat.le_refl _) hk2 with hnil | ⟨R, hR, ho, hf⟩
                · rw [hnil] at cw
                  clear hP hnil HD
                  go_wp2
                  go_roundw
                  case rel => exact ⟨k + 1, by omega, rfl, by go_num, own, c, HP.out.more (Int.le_refl _) (by omega)⟩
                  case measure => simp [intOf]; omega
                · have HCl : Hid (Calls Tryz.prog 7 #[.pointer (some ⟨R.x, 0, none⟩), .agg #[.int .i64 6, .int .i64 0, .int .i64 0, .int .i32 0, .int .i64 0]] wr fun e w' => e = .returned (.bool true) ∧ Hid (∃ own' R', Pr w w' own' xw xs c one two k T ∧ Wo w w' own' k R' ∧ Fit R' T ∧ R'.x = R.x)) := by
                    refine Calls.mono (does_tell (by omega) ho hf 0 0 0 0) ?_
                    rintro e w' ⟨rfl, hD⟩
                    obtain ⟨own', R', h1, h2, h3, h4, h5⟩ := hD.out
                    exact ⟨rfl, own', R', hP.step (by omega) h5 ho.lo h4 (Int.le_refl _) (Nat.le_refl _) (fun _ _ => .inr ⟨R', by rw [hR, h3.1], h1, h2⟩), h1, h2, h3.1⟩
                  have HR : Hid (c k = .pointer (some ⟨R.x, 0, none⟩)) := hR
                  rw [hR] at cw
                  clear hP HD HP ho hf hR
                  go_wp2_with fail
                  go_at_call 7
                  refine Calls.mono HCl.out ?_
                  rintro e v1 ⟨rfl, hv1⟩
                  obtain ⟨own', R', hP1, hw1, hf1, hx1⟩ := hv1.out
                  have HA : Hid (Calls Tryz.prog 8 #[.pointer (some ⟨R.x, 0, none⟩)] v1 fun e w' => e = .returned (.bool true) ∧ Hid (Pr w w' own' xw xs c one two (k + 1) T)) := by
                    rw [← hx1]
                    refine Calls.mono (hw1.apart hf1.wx) ?_
                    rintro e w' ⟨rfl, hK⟩
                    exact ⟨rfl, hP1.step (by omega) hK.out hw1.lo (fun _ _ => rfl) (Int.le_refl _) (by omega) (fun h _ => by omega)⟩
                  clear cw zw HCl hv1
                  have cw := hP1.cw hk2
                  rw [HR.out] at cw
                  have zw : xw < v1.heap.size := lt_of_block hP1.bw
                  clear hP1 hw1 hf1 hx1 HR
                  go_wp2_with fail
                  go_at_call 8
                  refine Calls.mono HA.out ?_
                  rintro e v2 ⟨rfl, hv2⟩
                  have HN : Hid (∃ own c, Pr w v2 own xw xs c one two (k + 1) T) := ⟨_, _, hv2.out⟩
                  clear hv2 HA cw zw
                  go_wp2
                  go_roundw
                  case rel => exact ⟨k + 1, by omega, rfl, by go_num, HN.out⟩
                  case measure => simp [intOf]; omega
              · have dk : decide ((k : Int) < 2) = false := by simp; omega
                have HE : Hid (Below w.heap.size w wr) := by obtain ⟨_, _, h⟩ := HD.out; exact h.be
                clear HD
                go_wp2
                all_goals (go_ret; exact ⟨rfl, HE.out⟩)
end Go.Proofs.YtmniefmjdfdedaaGreatDoor
