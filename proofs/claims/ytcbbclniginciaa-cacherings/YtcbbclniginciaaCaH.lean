/- The walk of CacheRings. -/
import Derived.Test.YtcbbclniginciaaCaG
import Derived.Laws.Tables
import Derived.Laws.Bits128
namespace Go.Proofs.Ytcbbclniginciaa
open Go.RowKit
set_option maxRecDepth 8000

/-- The two bounds. -/
def moOf (one two : Int) : Nat → Int := fun k => if k = 0 then one else two

theorem rs_start {w0 w1 : World} (hb : Below w0.heap.size w0 w1) (one two : Int) :
    RsK w0 (((w1.alloc (.cells #[.pointer none, .pointer none] 25)).alloc (.cells #[.pointer none, .pointer none] 27)).alloc (.cells #[.int .i64 one, .int .i64 two] 28)) 0 w1.heap.size (w1.heap.size + 1) (moOf one two) (fun _ => none) (fun _ => 0) (fun _ => .slice none 0 0) (fun _ => []) ∧
    (((w1.alloc (.cells #[.pointer none, .pointer none] 25)).alloc (.cells #[.pointer none, .pointer none] 27)).alloc (.cells #[.int .i64 one, .int .i64 two] 28)).heap[w1.heap.size + 1 + 1]? = some (.cells #[.int .i64 one, .int .i64 two] 28 (0, 0)) := by
  have hs := hb.size
  have two' : ∀ (i : Nat), i < 2 → (#[Value.pointer none, .pointer none] : Array Value)[i]? = some ((fun _ => Value.pointer none) i) := by
    intro i hi
    have : i = 0 ∨ i = 1 := by omega
    rcases this with rfl | rfl <;> rfl
  refine ⟨⟨?_, ?_, fun k h => by omega, fun k h => by omega, fun k p h => by omega, fun k h => by omega, hs, by omega, fun i j p h => by omega, fun i j h => by omega, fun i j b h => by omega, ?_⟩, ?_⟩
  · have h1 := World.rowIs_alloc w1 #[.pointer none, .pointer none] 25 (fun _ => .pointer none) two'
    exact World.rowIs.congr ((World.rowIs.alloc h1 _).alloc _) (fun i hi => by rw [if_neg (by omega)])
  · have h1 := World.rowIs_alloc (w1.alloc (.cells #[.pointer none, .pointer none] 25)) #[.pointer none, .pointer none] 27 (fun _ => .pointer none) two'
    rw [World.size_alloc] at h1
    exact World.rowIs.congr (World.rowIs.alloc h1 _) (fun i hi => by rw [if_neg (by omega)])
  · exact ((hb.alloc hs _).alloc (by simp only [World.size_alloc]; omega) _).alloc (by simp only [World.size_alloc]; omega) _
  · have := heap_alloc_new ((w1.alloc (.cells #[.pointer none, .pointer none] 25)).alloc (.cells #[.pointer none, .pointer none] 27)) (.cells #[.int .i64 one, .int .i64 two] 28)
    simpa only [World.size_alloc] using this

theorem rs_mid {w0 w : World} {k br bd : Nat} {mo : Nat → Int} {P : Nat → Option Nat} {D : Nat → Nat} {V : Nat → Value} {L : Nat → List Int} (h : RsK w0 w k br bd mo P D V L) (hk : k < 2) (x : Value) (o : Obj) :
    (∃ y, w.cell? ⟨br, k, none⟩ = some y) ∧ w.frozen? ⟨br, k, none⟩ = false ∧ (∃ y, ((w.setCell ⟨br, k, none⟩ x).alloc o).cell? ⟨bd, k, none⟩ = some y) ∧ ((w.setCell ⟨br, k, none⟩ x).alloc o).frozen? ⟨bd, k, none⟩ = false := by
  obtain ⟨cr, hcr, _⟩ := h.rr
  obtain ⟨cd, hcd, _⟩ := h.rd
  have hne : br ≠ bd := ne_ty2 hcr hcd (by decide)
  have := (h.rd.setOther (a := ⟨br, k, none⟩) (Ne.symm hne) x).alloc o
  exact ⟨⟨_, h.rr.cell hk⟩, h.rr.frozen _, ⟨_, this.cell hk⟩, this.frozen _⟩

theorem i64_and1 (n : Int) : bits .and .i64 n 1 = n % 2 := by
  have h1 : (BitVec.ofInt 64 1).toNat = 2 ^ 1 - 1 := by decide
  have key : (BitVec.ofInt 64 n &&& BitVec.ofInt 64 1).toNat = (n % ((2 ^ 64 : Nat) : Int)).toNat % 2 ^ 1 := by
    rw [BitVec.toNat_and, BitVec.toNat_ofInt, h1, Nat.and_two_pow_sub_one_eq_mod]
  show IntKind.i64.wrap ((BitVec.ofInt 64 n &&& BitVec.ofInt 64 1).toNat : Nat) = n % 2
  rw [key, IntKind.wrap_i64]
  omega

/-- A new row, written whole. -/
theorem rows1 (W : World) (t : TypeId) (Z C : Array Value) : (W.alloc (.cells Z t)).heap[W.heap.size]? = some (.cells Z t (0, 0)) ∧ ((W.alloc (.cells Z t)).setRow W.heap.size C).heap[W.heap.size]? = some (.cells C t (0, 0)) ∧ Below W.heap.size W ((W.alloc (.cells Z t)).setRow W.heap.size C) := by
  have s1 : (W.alloc (.cells Z t)).heap[W.heap.size]? = some (.cells Z t (0, 0)) := heap_alloc_new _ _
  have k2 : Kept (W.alloc (.cells Z t)) ((W.alloc (.cells Z t)).setRow W.heap.size C) (fun k => k = W.heap.size) := ⟨rfl, rfl, rfl, by simp, fun k _ hn => setRow_other _ _ _ _ hn⟩
  exact ⟨s1, setRow_heap (W.alloc (.cells Z t)) W.heap.size _ C _ _ s1, ((Below.refl _ _).alloc (Nat.le_refl _) _).trans (k2.below (by simp) (fun k e => by omega))⟩

abbrev opZ : Array Value := #[.int .i64 0, .int .i64 0, .int .i64 0, .int .u32 0, .int .u32 0, .int .i8 0, .int .u32 0, .int .i64 0, .int .i8 0, .string ⟨#[]⟩, .slice none 0 0, .slice none 0 0, .int .i32 0, .bool false, .bool false, .int .i64 0, .int .i32 0, .slice none 0 0, .slice none 0 0, .int .u32 0, .int .u32 0, .int .u32 0, .int .u32 0]

set_option maxHeartbeats 2000000 in
theorem rings_walk (one two : Int) (v : Value) (ops : List OpC) (w : World) (hs : SeesOpsC w v ops) (hl : ops.length ≤ 140737488355328) (_h1 : -9223372036854775808 ≤ one ∧ one ≤ 9223372036854775807) (_h2 : -9223372036854775808 ≤ two ∧ two ≤ 9223372036854775807) :
    Calls Try.prog 3 #[.int .i64 one, .int .i64 two, v] w fun e w' => e = .returned (.bool true) ∧ Below w.heap.size w w' := by
  obtain ⟨ao, cap, rfl, hc1, hc2, hok, h3⟩ := hs
  unfold maxLen at hc2
  have H3 : Hid _ := h3
  have HOK : Hid _ := hok
  clear h3 hok
  go_enter Try.func3, Try.ntmps3
  go_wp2_with fail
  go_at_call 6
  refine (caWorks_any _).mono ?_
  rintro e w1 ⟨rfl, hb1⟩
  have H1 : Hid (Below w.heap.size w w1) := hb1
  clear hb1
  by_cases hlong : 4194304 < (ops.length : Int)
  · go_wp2_with fail
    go_ret
    exact ⟨rfl, H1.out⟩
  · obtain ⟨mo, hmo⟩ : ∃ mo, mo = moOf one two := ⟨_, rfl⟩
    have HS := rs_start H1.out one two
    rw [← hmo] at HS
    have HS : Hid _ := HS
    go_wp2_with fail
    generalize hbr : w1.heap.size = br at *
    obtain ⟨bd, hbd⟩ : ∃ bd, bd = br + 1 := ⟨_, rfl⟩
    obtain ⟨bm, hbm⟩ : ∃ bm, bm = br + 1 + 1 := ⟨_, rfl⟩
    have hs1 := HS.out
    clear HS
    rw [← hbm, ← hbd] at hs1 ⊢
    have HS : Hid _ := hs1
    clear hs1
    have HM : Hid (mo = moOf one two) := hmo
    have HB : Hid (bm = br + 1 + 1 ∧ w.heap.size ≤ br ∧ bd = br + 1) := ⟨hbm, by have := H1.out.size; omega, hbd⟩
    clear hmo hbr hbd hbm H1
    go_loopw [11] (fun vi wr => ∃ k : Nat, k ≤ 2 ∧ vi = .int .i64 k ∧ ∃ P D V L, Hid (RsK w wr k br bd mo P D V L ∧ (∀ j, L j = []) ∧ wr.heap[bm]? = some (.cells #[.int .i64 one, .int .i64 two] 28 (0, 0)))) (fun vi _ => 2 - (intOf vi).toNat)
    case atStart => exact ⟨0, Nat.zero_le _, rfl, _, _, _, _, HS.out.1, fun _ => rfl, HS.out.2⟩
    case round =>
      clear HS
      obtain ⟨k, hk, rfl, P, D, V, L, HR⟩ := hrel
      by_cases hlt : k < 2
      · have hcm : wr.cell? ⟨bm, k, none⟩ = some (.int .i64 (mo k)) := by
          rw [HM.out]
          have : k = 0 ∨ k = 1 := by omega
          rcases this with rfl | rfl
          · exact cell_of_row wr bm 0 _ _ _ HR.out.2.2
          · exact cell_of_row wr bm 1 _ _ _ HR.out.2.2
        obtain ⟨m, hm⟩ : ∃ m, m = mo k := ⟨_, rfl⟩
        rw [← hm] at hcm
        have HMk : Hid (m = mo k) := hm
        clear hm
        have hlm : bm < wr.heap.size := lt_of_block HR.out.2.2
        by_cases hno : m < 0 ∨ 64 < m
        · go_wp2_with fail
          go_at_call 7
          refine (newI_no m _ hno).mono ?_
          rintro e w2 ⟨rfl, rfl⟩
          have hr := HR.out.1.more hlt none (fun p e => by cases e)
          rw [← HMk.out] at hr
          have hcm2 : (w2.setCell ⟨br, k, none⟩ (.pointer none)).cell? ⟨bm, k, none⟩ = some (.int .i64 m) := by
            rw [World.cell?_of_block (Below.heap_setCell _ _ _ _ (by have := HB.out; show bm ≠ br; omega))]; exact hcm
          obtain ⟨⟨y8, t8⟩, f8, ⟨y9, t9⟩, f9⟩ := rs_mid HR.out.1 hlt (.pointer none) (.cells #[.int .i64 m, .slice none 0 0] 34)
          have l8 := HR.out.1.rr.lt
          have l9 := HR.out.1.rd.lt
          have HR2 : Hid (RsK w (((w2.setCell ⟨br, k, none⟩ (.pointer none)).setCell ⟨bd, k, none⟩ (.pointer (some ⟨w2.heap.size, 0, none⟩))).alloc (.cells #[.int .i64 m, .slice none 0 0] 34)) (k + 1) br bd mo (upd P k none) (upd D k w2.heap.size) (upd V k (.slice none 0 0)) (upd L k []) ∧ (∀ j, upd L k [] j = []) ∧ (((w2.setCell ⟨br, k, none⟩ (.pointer none)).setCell ⟨bd, k, none⟩ (.pointer (some ⟨w2.heap.size, 0, none⟩))).alloc (.cells #[.int .i64 m, .slice none 0 0] 34)).heap[bm]? = some (.cells #[.int .i64 one, .int .i64 two] 28 (0, 0))) := by
            refine ⟨hr, fun j => ?_, ?_⟩
            · by_cases e : j = k
              · subst e; exact upd_same _ _ _
              · rw [upd_other _ _ e]; exact HR.out.2.1 j
            · rw [alloc_old _ (by simp; exact hlm), Below.heap_setCell _ _ _ _ (by have := HB.out; show bm ≠ bd; omega), Below.heap_setCell _ _ _ _ (by have := HB.out; show bm ≠ br; omega)]
              exact HR.out.2.2
          clear hr HR
          by_cases hneg : m < 0
          · go_wp2_with fail
            go_roundw
            case rel => exact ⟨k + 1, by omega, by go_num, _, _, _, _, HR2⟩
            case measure => simp [intOf]; omega
          · have hbig : 64 < m := by omega
            go_wp2_with fail
            go_roundw
            case rel => exact ⟨k + 1, by omega, by go_num, _, _, _, _, HR2⟩
            case measure => simp [intOf]; omega
        · obtain ⟨n, hn⟩ : ∃ n : Nat, m = n := ⟨m.toNat, by omega⟩
          subst hn
          have hn64 : n ≤ 64 := by omega
          go_wp2_with fail
          go_at_call 7
          refine (newI_yes n _ hn64).mono ?_
          rintro e w2 ⟨rfl, hr2, hb2⟩
          have hcm1 := cell_later hcm hb2 (Nat.le_refl _)
          have hlm1 : bm < w2.heap.size := Nat.lt_of_lt_of_le hlm hb2.size
          have hRS := HR.out.1.below hb2
          have hpl : wr.heap.size < w2.heap.size := hr2.lt
          have hr := hRS.more hlt (some wr.heap.size) (fun p e => by
            cases e
            refine ⟨by rw [← HMk.out]; omega, HR.out.1.bel.size, by rw [← HMk.out]; exact hr2, fun j hj e => ?_⟩
            have := (HR.out.1.ring j _ hj e).2.2.lt
            omega)
          rw [← HMk.out] at hr
          have hcm2 : (w2.setCell ⟨br, k, none⟩ (.pointer (some ⟨wr.heap.size, 0, none⟩))).cell? ⟨bm, k, none⟩ = some (.int .i64 n) := by
            rw [World.cell?_of_block (Below.heap_setCell _ _ _ _ (by have := HB.out; show bm ≠ br; omega))]; exact hcm1
          obtain ⟨⟨y8, t8⟩, f8, ⟨y9, t9⟩, f9⟩ := rs_mid hRS hlt (.pointer (some ⟨wr.heap.size, 0, none⟩)) (.cells #[.int .i64 n, .slice none 0 0] 34)
          have l8 := hRS.rr.lt
          have l9 := hRS.rd.lt
          have HR2 : Hid (RsK w (((w2.setCell ⟨br, k, none⟩ (.pointer (some ⟨wr.heap.size, 0, none⟩))).setCell ⟨bd, k, none⟩ (.pointer (some ⟨w2.heap.size, 0, none⟩))).alloc (.cells #[.int .i64 n, .slice none 0 0] 34)) (k + 1) br bd mo (upd P k (some wr.heap.size)) (upd D k w2.heap.size) (upd V k (.slice none 0 0)) (upd L k []) ∧ (∀ j, upd L k [] j = []) ∧ (((w2.setCell ⟨br, k, none⟩ (.pointer (some ⟨wr.heap.size, 0, none⟩))).setCell ⟨bd, k, none⟩ (.pointer (some ⟨w2.heap.size, 0, none⟩))).alloc (.cells #[.int .i64 n, .slice none 0 0] 34)).heap[bm]? = some (.cells #[.int .i64 one, .int .i64 two] 28 (0, 0))) := by
            refine ⟨hr, fun j => ?_, ?_⟩
            · by_cases e : j = k
              · subst e; exact upd_same _ _ _
              · rw [upd_other _ _ e]; exact HR.out.2.1 j
            · rw [alloc_old _ (by simp; exact hlm1), Below.heap_setCell _ _ _ _ (by have := HB.out; show bm ≠ bd; omega), Below.heap_setCell _ _ _ _ (by have := HB.out; show bm ≠ br; omega), hb2.block _ hlm]
              exact HR.out.2.2
          clear hr HR hRS hr2 hb2 hcm hlm hno
          generalize wr.heap.size = p at *
          go_wp2_with fail
          go_roundw
          case rel => exact ⟨k + 1, by omega, by go_num, _, _, _, _, HR2⟩
          case measure => simp [intOf]; omega
      · obtain rfl : k = 2 := by omega
        have HR2 : Hid (RsK w wr 2 br bd mo P D V L ∧ ∀ j, L j = []) := ⟨HR.out.1, HR.out.2.1⟩
        clear HR HM HB hk hlt HS
        rw [show ((2 : Nat) : Int) = 2 from rfl]
        go_wp2_with fail
        go_loopw [7, 15] (fun vo vi wr => vo = .bool true ∧ ∃ i : Nat, i ≤ ops.length ∧ vi = .int .i64 i ∧ ∃ V L, Hid (RsK w wr 2 br bd mo P D V L ∧ ∀ k, k < 2 → (L k).length ≤ i)) (fun _ vi _ => ops.length - (intOf vi).toNat)
        case atStart => exact ⟨rfl, 0, Nat.zero_le _, rfl, V, L, HR2.out.1, fun k _ => by rw [HR2.out.2 k]; exact Nat.le_refl _⟩
        case round =>
          clear HR2 V L
          obtain ⟨rfl, i, hi, rfl, V, L, HR⟩ := hrel
          by_cases hlt : i < ops.length
          · rcases H3.out with h3 | ⟨b, off, rfl, h3⟩
            · subst h3; simp at hlt
            · have hx : wr.rangeAt b (off + i * 23) ops[i].cells := fun j u hu => cell_later (h3 i hlt j u hu) HR.out.1.bel (Nat.le_refl _)
              have hok := HOK.out _ (List.getElem_mem hlt)
              obtain ⟨op, hop⟩ : ∃ op, op = ops[i] := ⟨_, rfl⟩
              rw [← hop] at hx hok
              clear hop h3
              obtain ⟨X, hX⟩ : ∃ X, X = op.cells := ⟨_, rfl⟩
              have xl : X.length = 23 := by rw [hX]; simp [OpC.cells, hok.len]
              have x1 : X.toArray.all (·.oneCell') = true := all_oneCell_toArray (fun v hv => by
                rw [hX] at hv
                rcases List.mem_append.1 hv with h | h
                · simp at h; rcases h with rfl | rfl | rfl <;> rfl
                · exact hok.one v h)
              rw [← hX] at hx
              have HX : Hid (X = op.cells) := hX
              clear hX
              have qx : (Try.prog.info? 50).map (·.size) = some X.length := by rw [xl]; kernel_rfl
              have qx' : (Try.prog.info? 50).map (·.size) = some X.toArray.size := by rw [List.size_toArray]; exact qx
              obtain ⟨s1, r1, b1⟩ := rows1 wr 50 opZ X.toArray
              have hR4 := HR.out.1.below b1
              go_upto_region 20 with (first
                | (refine wpList_load_mid rfl 50 _ rfl b (off + i * 23) rfl X _ hx Try.underlying50 rfl qx ?_)
                | (refine wpList_store_row rfl 50 _ _ rfl wr.heap.size X.toArray rfl rfl 50 _ s1 qx' (by simp [xl]) x1 ?_))
              obtain ⟨kk, hkk⟩ : ∃ kk : Nat, op.on % 2 = (kk : Int) := ⟨(op.on % 2).toNat, by omega⟩
              have hk2 : kk < 2 := by omega
              have hand : bits .and .i64 op.on 1 = (kk : Int) := by rw [i64_and1, hkk]
              have HL : Hid (∀ k, k < 2 → (L k).length ≤ i) := HR.out.2
              generalize ((wr.alloc (.cells opZ 50)).setRow wr.heap.size X.toArray) = W4 at *
              generalize hpo : wr.heap.size = po at *
              have c0 : W4.cell? ⟨po, 0, none⟩ = some (.int .i64 op.kind) := by rw [cell_of_row W4 po 0 _ _ _ r1, HX.out]; rfl
              have c1 : W4.cell? ⟨po, 1, none⟩ = some (.int .i64 op.on) := by rw [cell_of_row W4 po 1 _ _ _ r1, HX.out]; rfl
              have c2 : W4.cell? ⟨po, 2, none⟩ = some (.int .i64 op.n) := by rw [cell_of_row W4 po 2 _ _ _ r1, HX.out]; rfl
              have d8 : W4.cell? ⟨br, kk, none⟩ = some (ptrO (P kk)) := by rw [hR4.rr.cell hk2, if_pos hk2]
              have d9 : W4.cell? ⟨bd, kk, none⟩ = some (.pointer (some ⟨D kk, 0, none⟩)) := by rw [hR4.rd.cell hk2, if_pos hk2]
              have lpo : po < W4.heap.size := lt_of_block r1
              have lbr := hR4.rr.lt
              have lbd := hR4.rd.lt
              have HR5 : Hid (RsK w W4 2 br bd mo P D V L) := hR4
              have HPO : Hid (w.heap.size ≤ po) := by rw [← hpo]; exact HR.out.1.bel.size
              have HTo : Hid (∃ c, W4.heap[po]? = some (.cells c 50 (0, 0))) := ⟨_, r1⟩
              clear hR4 HR hx s1 r1 b1 qx qx' x1 xl HX hkk hpo hok H3
              cases hP : P kk with
              | none =>
                rw [hP] at d8
                go_wp2_with fail
                go_roundw
                case rel => exact ⟨rfl, i + 1, by omega, by go_num, V, L, HR5.out, fun k hk => by have := HL.out k hk; omega⟩
                case measure => simp [intOf]; omega
              | some p =>
                rw [hP] at d8
                obtain ⟨⟨hm0, hm1⟩, hpB, hrg⟩ := HR5.out.ring kk p hk2 hP
                obtain ⟨m, hm⟩ : ∃ m : Nat, mo kk = m := ⟨(mo kk).toNat, by omega⟩
                have hm64 : m ≤ 64 := by omega
                have hnum := HR5.out.num kk hk2
                have hown := HR5.out.own kk hk2
                have hlen := HL.out kk hk2
                rw [hm] at hrg hnum
                simp only [Int.toNat_natCast] at hrg
                have HN : Hid _ := And.intro hnum hown
                have HG : Hid _ := hrg
                have HPK : Hid (P kk = some p ∧ mo kk = m) := ⟨hP, hm⟩
                have lD : D kk < W4.heap.size := lt_of_block hnum
                have lp : p < W4.heap.size := hrg.lt
                clear hnum hown hrg hm hP hm0 hm1
                by_cases e1 : op.kind = 1
                · have d8' : W4.cell? ⟨br, kk, none⟩ = some (.pointer (some ⟨p, 0, none⟩)) := d8
                  obtain ⟨va, vc, hva, hvc1, hvc2, _⟩ := ownI_shape HN.out.2
                  have HV : Hid (V kk = .slice va (L kk).length vc) := hva
                  have HT : Hid (∃ c, W4.heap[po]? = some (.cells c 50 (0, 0))) := HTo.out
                  clear hva
                  have HPut : Hid (Calls Try.prog 8 #[.pointer (some ⟨p, 0, none⟩), .int .i64 op.n] W4.drew fun e w' => e = .returned (.tuple #[]) ∧ (w'.cell? ⟨br, kk, none⟩ = some (.pointer (some ⟨p, 0, none⟩)) ∧ w'.cell? ⟨po, 2, none⟩ = some (.int .i64 op.n)) ∧ w'.cell? ⟨bd, kk, none⟩ = some (.pointer (some ⟨D kk, 0, none⟩)) ∧ w'.cell? ⟨D kk, 1, none⟩ = some (.slice va (L kk).length vc) ∧ D kk < w'.heap.size ∧ bd < w'.heap.size ∧ po < w'.heap.size ∧ Hid (IsRg 72 w' p m (lastN m ((L kk ++ [op.n]).map (Value.int .i64))) ∧ Kept W4 w' (· = p) ∧ w'.heap[D kk]? = some (.cells (nuC (mo kk) (V kk)) 34 (0, 0)) ∧ OwnI w' w.heap.size (V kk) (L kk) ∧ ∃ c, w'.heap[po]? = some (.cells c 50 (0, 0)))) := by
                    refine (putI_any (w := W4.drew) HG.out op.n).mono ?_
                    rintro e w5 ⟨rfl, h5, k5⟩
                    have k5' : Kept W4 w5 (· = p) := ⟨k5.os, k5.tape, k5.output, k5.size, k5.block⟩
                    obtain ⟨g9, g8, gn, go, lD5, lbd5, lbr5⟩ := HR5.out.past hk2 hk2 HPK.out.1 k5'
                    rw [HPK.out.1] at g8
                    obtain ⟨cp, hcp⟩ := HT.out
                    obtain ⟨cq, hcq⟩ := IsRg.block HG.out
                    have hne : po ≠ p := ne_ty2 hcp hcq (by decide)
                    refine ⟨rfl, ⟨g8, k5'.cell c2 hne⟩, g9, ?_, lD5, lbd5, lt_of_block (k5'.heap hcp hne), ?_, k5', gn, go, cp, k5'.heap hcp hne⟩
                    · rw [cell_of_row w5 _ 1 _ _ _ gn, ← HV.out]; rfl
                    · rw [lastN_snoc] at h5
                      rw [List.map_append]
                      exact h5
                  go_wp2_with fail
                  have k0 : W4.drew.cell? ⟨br, kk, none⟩ = some (.pointer (some ⟨p, 0, none⟩)) ∧ W4.drew.cell? ⟨po, 2, none⟩ = some (.int .i64 op.n) := ⟨d8', c2⟩
                  go_region_held (fun w' => w'.cell? ⟨br, kk, none⟩ = some (.pointer (some ⟨p, 0, none⟩)) ∧ w'.cell? ⟨po, 2, none⟩ = some (.int .i64 op.n)) (first | exact k0 | exact k1) (first | (go_at_call 8; refine (HPut.out).mono ?_; rintro e w5 ⟨rfl, k1, g9, gc, lD5, lbd5, lpo5, H5⟩))
                  obtain ⟨i0, hi0, hz0, hz1, hz2⟩ := info_parts Try.infoI64
                  have HNew : Hid ((∀ j u, [Value.int .i64 op.n][j]? = some u → (w5.drew.alloc (.cells #[.int .i64 op.n] 2)).cell? ((⟨w5.heap.size, 0, none⟩ : Addr).add j) = some u) ∧ ∀ u ∈ [Value.int .i64 op.n], u.oneCell' = true) := by
                    refine ⟨fun j u hj => ?_, fun u hu => by simp at hu; subst hu; rfl⟩
                    have hj0 : j = 0 := by
                      have := (List.getElem?_eq_some_iff.1 hj).1
                      simp at this; exact this
                    subst hj0
                    simp at hj
                    subst hj
                    have := cell_of_row _ w5.heap.size 0 _ _ _ (heap_alloc_new w5.drew (.cells #[.int .i64 op.n] 2))
                    simpa [Addr.add] using this
                  have HOA : Hid (OwnI (w5.drew.alloc (.cells #[.int .i64 op.n] 2)) w.heap.size (.slice va (L kk).length vc) (L kk)) := by
                    have := H5.out.2.2.2.1
                    rw [HV.out] at this
                    exact ownI_kept (w := w5) this (S := fun _ => False) (((Kept.refl _ _).drewN 1).alloc _) (fun _ _ h => h)
                  have HBas : Hid (w.heap.size ≤ (w5.drew.alloc (.cells #[.int .i64 op.n] 2)).heap.size) := by
                    have := HR5.out.bel.size
                    have := H5.out.2.1.size
                    show w.heap.size ≤ _
                    simp
                    omega
                  have HStep : Hid (∀ v' w6, w6.ownsRow w.heap.size 2 1 v' ((L kk).length + 1) ((L kk).map (Value.int .i64) ++ [.int .i64 op.n]) → (w5.drew.alloc (.cells #[.int .i64 op.n] 2)).grownBy w6 (Value.slice va (L kk).length vc).ownBlock → (v'.ownBlock = (Value.slice va (L kk).length vc).ownBlock ∨ v'.ownBlock = some (w5.drew.alloc (.cells #[.int .i64 op.n] 2)).heap.size) →
                      ∃ a' c', v' = .slice a' ((L kk).length + 1) c' ∧ (w6.cell? ⟨bd, kk, none⟩ = some (.pointer (some ⟨D kk, 0, none⟩)) ∧ w6.cell? ⟨po, 2, none⟩ = some (.int .i64 op.n)) ∧ w6.cell? ⟨D kk, 1, none⟩ = some (.slice va (L kk).length vc) ∧ w6.frozen? ⟨D kk, 1, none⟩ = false ∧ D kk < w6.heap.size ∧ bd < w6.heap.size ∧ po < w6.heap.size ∧
                        ((w6.setCell ⟨D kk, 1, none⟩ (.slice a' ((L kk).length + 1) c')).cell? ⟨bd, kk, none⟩ = some (.pointer (some ⟨D kk, 0, none⟩)) ∧ (w6.setCell ⟨D kk, 1, none⟩ (.slice a' ((L kk).length + 1) c')).cell? ⟨po, 2, none⟩ = some (.int .i64 op.n)) ∧ Hid (RsK w (w6.setCell ⟨D kk, 1, none⟩ (.slice a' ((L kk).length + 1) c')) 2 br bd mo P D (upd V kk (.slice a' ((L kk).length + 1) c')) (upd L kk (L kk ++ [op.n])))) := by
                    intro v' w6 ho hgrow hbk
                    obtain ⟨hrg5, k5, hn5, ho5, cp, hcp⟩ := H5.out
                    have hoI : OwnI w6 w.heap.size v' (L kk ++ [op.n]) := by
                      have : w6.ownsRow w.heap.size 2 1 v' (L kk ++ [op.n]).length ((L kk ++ [op.n]).map (Value.int .i64)) := by
                        rw [List.length_append, List.map_append]; exact ho
                      exact this
                    obtain ⟨a', c', e', _⟩ := ownI_shape hoI
                    rw [List.length_append] at e'
                    have k6 : Kept w5 w6 (fun b => (V kk).ownBlock = some b) := (((Kept.refl w5 _).drewN 1).alloc _).grown hgrow (fun b _ e => by rw [HV.out]; exact e)
                    obtain ⟨cd, hcd, _⟩ := HR5.out.rd
                    obtain ⟨cq, hcq⟩ := IsRg.block HG.out
                    have hcd5 := k5.heap hcd (ne_ty2 hcd hcq (by decide))
                    have tV : ∀ b, (V kk).ownBlock = some b → ∃ c, w5.heap[b]? = some (.cells c 2 (0, 0)) := fun b hb => (ownI_block ho5 hb).2
                    have n1 : ¬ (V kk).ownBlock = some bd := fun e => by obtain ⟨c, hc⟩ := tV _ e; exact ne_ty2 hcd5 hc (by decide) rfl
                    have n2 : ¬ (V kk).ownBlock = some po := fun e => by obtain ⟨c, hc⟩ := tV _ e; exact ne_ty2 hcp hc (by decide) rfl
                    have n3 : ¬ (V kk).ownBlock = some (D kk) := fun e => by obtain ⟨c, hc⟩ := tV _ e; exact ne_ty2 hn5 hc (by decide) rfl
                    have n4 : bd ≠ D kk := ne_ty2 hcd5 hn5 (by decide)
                    have n5 : po ≠ D kk := ne_ty2 hcp hn5 (by decide)
                    have hn6 := k6.heap hn5 n3
                    have x1 := k6.cell g9 n1
                    have x2 := k6.cell k1.2 n2
                    refine ⟨a', c', e', ⟨x1, x2⟩, k6.cell gc n3, frozen_of_row w6 _ 1 _ _ hn6, lt_of_block hn6, lt_of_block (k6.heap hcd5 n1), lt_of_block (k6.heap hcp n2), ⟨?_, ?_⟩, ?_⟩
                    · rw [World.cell?_of_block (Below.heap_setCell _ _ _ _ n4)]; exact x1
                    · rw [World.cell?_of_block (Below.heap_setCell _ _ _ _ n5)]; exact x2
                    · have := HR5.out.putOne hk2 HPK.out.1 k5 op.n hn5 (by rw [HPK.out.2]; exact hrg5) k6 hoI (fun b hb => ?_)
                      · rw [e'] at this; exact this
                      · rcases hbk with e | e
                        · rw [e, ← HV.out] at hb; exact .inl hb
                        · rw [e] at hb
                          simp at hb
                          exact .inr (by omega)
                  have q0 : w5.drew.cell? ⟨bd, kk, none⟩ = some (.pointer (some ⟨D kk, 0, none⟩)) ∧ w5.drew.cell? ⟨po, 2, none⟩ = some (.int .i64 op.n) := ⟨g9, k1.2⟩
                  have qA : (w5.drew.alloc (.cells #[.int .i64 op.n] 2)).cell? ⟨bd, kk, none⟩ = some (.pointer (some ⟨D kk, 0, none⟩)) ∧ (w5.drew.alloc (.cells #[.int .i64 op.n] 2)).cell? ⟨po, 2, none⟩ = some (.int .i64 op.n) :=
                    ⟨cell_later g9 (((below_drewN (Below.refl w5.heap.size w5) 1)).alloc (by simp) _) (Nat.le_refl _), cell_later k1.2 (((below_drewN (Below.refl w5.heap.size w5) 1)).alloc (by simp) _) (Nat.le_refl _)⟩
                  clear HR5 HG HN HPut H5 HT k0 k1 d8 d8' c0 c1 c2 d9 g9 lD lp lpo lbr lbd
                  go_upto_region 25 with fail
                  refine wp_region_held_drew (S := (fun w' => w'.cell? ⟨bd, kk, none⟩ = some (.pointer (some ⟨D kk, 0, none⟩)) ∧ w'.cell? ⟨po, 2, none⟩ = some (.int .i64 op.n))) (by kernel_rfl) ?_ (fun hHeld => ?_)
                  · exact q0
                  refine wpAnyH_take (i := 0) (oi := { dst := some 108, op := Op.move (Operand.tmp 17), type := 3, pos := "law.go:76", after := #[], guard := none }) (v := ?_) rfl (by kernel_rfl) (by kernel_rfl) (by kernel_rfl) (fun _ _ _ h => h) (Or.inl ⟨by rfl, ?_⟩) (by assumption) ?_
                  rotate_left
                  · (intro w hSw; (try dsimp only at hSw); go_simp) <;> with_reducible rfl
                  try simp only [Act.put, List.setIfInBounds_toArray, List.set_cons_zero, List.set_cons_succ]
                  refine wpAnyH_take (i := 1) (oi := { dst := some 109, op := Op.indexAddr 27 (Operand.tmp 9) (Operand.tmp 108), type := 0, pos := "law.go:76", after := #[{ on := 0, ground := Ground.data }], guard := none }) (v := ?_) rfl (by kernel_rfl) (by kernel_rfl) (by kernel_rfl) (fun _ _ _ h => h) (Or.inl ⟨by rfl, ?_⟩) (by assumption) ?_
                  rotate_left
                  · (intro w hSw; (try dsimp only at hSw); go_simp) <;> with_reducible rfl
                  try simp only [Act.put, List.setIfInBounds_toArray, List.set_cons_zero, List.set_cons_succ]
                  refine wpAnyH_take (i := 2) (oi := { dst := some 110, op := Op.load 26 (Operand.tmp 109), type := 26, pos := "law.go:76", after := #[{ on := 1, ground := Ground.data }], guard := none }) (v := ?_) rfl (by kernel_rfl) (by kernel_rfl) (by kernel_rfl) (fun _ _ _ h => h) (Or.inl ⟨by rfl, ?_⟩) (by assumption) ?_
                  rotate_left
                  · (intro w hSw; (try dsimp only at hSw); go_simp) <;> with_reducible rfl
                  try simp only [Act.put, List.setIfInBounds_toArray, List.set_cons_zero, List.set_cons_succ]
                  refine wpAnyH_take (i := 3) (oi := { dst := some 111, op := Op.move (Operand.tmp 17), type := 3, pos := "law.go:76", after := #[], guard := none }) (v := ?_) rfl (by kernel_rfl) (by kernel_rfl) (by kernel_rfl) (fun _ _ _ h => h) (Or.inl ⟨by rfl, ?_⟩) (by assumption) ?_
                  rotate_left
                  · (intro w hSw; (try dsimp only at hSw); go_simp) <;> with_reducible rfl
                  try simp only [Act.put, List.setIfInBounds_toArray, List.set_cons_zero, List.set_cons_succ]
                  refine wpAnyH_take (i := 4) (oi := { dst := some 112, op := Op.indexAddr 27 (Operand.tmp 9) (Operand.tmp 111), type := 0, pos := "law.go:76", after := #[{ on := 3, ground := Ground.data }], guard := none }) (v := ?_) rfl (by kernel_rfl) (by kernel_rfl) (by kernel_rfl) (fun _ _ _ h => h) (Or.inl ⟨by rfl, ?_⟩) (by assumption) ?_
                  rotate_left
                  · (intro w hSw; (try dsimp only at hSw); go_simp) <;> with_reducible rfl
                  try simp only [Act.put, List.setIfInBounds_toArray, List.set_cons_zero, List.set_cons_succ]
                  refine wpAnyH_take (i := 5) (oi := { dst := some 113, op := Op.load 26 (Operand.tmp 112), type := 26, pos := "law.go:76", after := #[{ on := 4, ground := Ground.data }], guard := none }) (v := ?_) rfl (by kernel_rfl) (by kernel_rfl) (by kernel_rfl) (fun _ _ _ h => h) (Or.inl ⟨by rfl, ?_⟩) (by assumption) ?_
                  rotate_left
                  · (intro w hSw; (try dsimp only at hSw); go_simp) <;> with_reducible rfl
                  try simp only [Act.put, List.setIfInBounds_toArray, List.set_cons_zero, List.set_cons_succ]
                  refine wpAnyH_take (i := 6) (oi := { dst := some 114, op := Op.nilCheck (Operand.tmp 113), type := 0, pos := "law.go:76", after := #[{ on := 5, ground := Ground.data }], guard := none }) (v := ?_) rfl (by kernel_rfl) (by kernel_rfl) (by kernel_rfl) (fun _ _ _ h => h) (Or.inl ⟨by rfl, ?_⟩) (by assumption) ?_
                  rotate_left
                  · (intro w hSw; (try dsimp only at hSw); go_simp) <;> with_reducible rfl
                  try simp only [Act.put, List.setIfInBounds_toArray, List.set_cons_zero, List.set_cons_succ]
                  refine wpAnyH_take (i := 7) (oi := { dst := some 115, op := Op.fieldAddr 34 (Operand.tmp 114) 1, type := 0, pos := "law.go:76", after := #[{ on := 6, ground := Ground.data }], guard := none }) (v := ?_) rfl (by kernel_rfl) (by kernel_rfl) (by kernel_rfl) (fun _ _ _ h => h) (Or.inl ⟨by rfl, ?_⟩) (by assumption) ?_
                  rotate_left
                  · (intro w hSw; (try dsimp only at hSw); go_simp) <;> with_reducible rfl
                  try simp only [Act.put, List.setIfInBounds_toArray, List.set_cons_zero, List.set_cons_succ]
                  refine wpAnyH_take (i := 9) (oi := { dst := some 117, op := Op.fieldAddr 50 (Operand.tmp 16) 2, type := 0, pos := "law.go:76", after := #[], guard := none }) (v := ?_) rfl (by kernel_rfl) (by kernel_rfl) (by kernel_rfl) (fun _ _ _ h => h) (Or.inl ⟨by rfl, ?_⟩) (by assumption) ?_
                  rotate_left
                  · (intro w hSw; (try dsimp only at hSw); go_simp) <;> with_reducible rfl
                  try simp only [Act.put, List.setIfInBounds_toArray, List.set_cons_zero, List.set_cons_succ]
                  refine wpAnyH_take (i := 10) (oi := { dst := some 118, op := Op.load 2 (Operand.tmp 117), type := 2, pos := "law.go:76", after := #[{ on := 9, ground := Ground.data }], guard := none }) (v := ?_) rfl (by kernel_rfl) (by kernel_rfl) (by kernel_rfl) (fun _ _ _ h => h) (Or.inl ⟨by rfl, ?_⟩) (by assumption) ?_
                  rotate_left
                  · (intro w hSw; (try dsimp only at hSw); go_simp) <;> with_reducible rfl
                  try simp only [Act.put, List.setIfInBounds_toArray, List.set_cons_zero, List.set_cons_succ]
                  refine wpAnyH_ready (rs := [8, 11]) (by kernel_rfl) (by simp) ?_
                  refine AllReadyH.cons (o := { dst := some 116, op := Op.load 32 (Operand.tmp 115), type := 32, pos := "law.go:76", after := #[{ on := 7, ground := Ground.data }], guard := none }) rfl (fun K hK => ?_) (AllReadyH.cons (o := { dst := some 119, op := Op.buildSlice 32 1 #[(0, Operand.tmp 118)], type := 32, pos := "law.go:76", after := #[{ on := 10, ground := Ground.data }], guard := none }) rfl (fun K hK => ?_) AllReadyH.nil)
                  · go_simp
                    refine hK.out _ _ (by assumption) (fun hHeld => ?_)
                    clear hK K
                    refine wpAnyH_ready (rs := [11]) (by kernel_rfl) (by simp) ?_
                    refine AllReadyH.cons (o := { dst := some 119, op := Op.buildSlice 32 1 #[(0, Operand.tmp 118)], type := 32, pos := "law.go:76", after := #[{ on := 10, ground := Ground.data }], guard := none }) rfl (fun K hK => ?_) AllReadyH.nil
                    go_simp
                    refine hK.out _ _ qA (fun hHeld => ?_)
                    clear hK K
                    refine wpAnyH_ready (rs := [12]) (by kernel_rfl) (by simp) ?_
                    refine AllReadyH.cons (o := { dst := some 120, op := Op.call { callee := Callee.builtin Builtin.append, args := #[Operand.tmp 116, Operand.tmp 119], argTypes := #[32, 32] }, type := 32, pos := "law.go:76", after := #[{ on := 8, ground := Ground.data }, { on := 11, ground := Ground.data }], guard := none }) rfl (fun K hK => ?_) AllReadyH.nil
                    refine step_appC rfl (.tmp 116) (.tmp 119) 32 rfl w.heap.size 2 i0 (.int .i64 0) 1 8 Try.underlying32 hi0 hz0 hz1 hz2 rfl (by decide) (.slice va (L kk).length vc) (L kk).length ((L kk).map (Value.int .i64)) rfl HOA.out ⟨w5.heap.size, 0, none⟩ 1 1 [.int .i64 op.n] rfl rfl HNew.out.1 HNew.out.2 (by unfold maxLen; omega) (by omega) HBas.out ?_
                    intro v' w6 ho hgrow hbk
                    obtain ⟨a', c', hv', hq6, gc6, gf6, lD6, lbd6, lpo6, hqZ, HZ⟩ := HStep.out v' w6 ho hgrow hbk
                    clear ho hgrow hbk
                    subst hv'
                    refine hK.out _ _ hq6 (fun hHeld => ?_)
                    clear hK K
                    refine wpAnyH_take (i := 13) (oi := { dst := some 121, op := Op.nilCheck (Operand.tmp 110), type := 0, pos := "law.go:76", after := #[{ on := 2, ground := Ground.data }, { on := 0, ground := Ground.phase }, { on := 1, ground := Ground.phase }, { on := 2, ground := Ground.phase }, { on := 3, ground := Ground.phase }, { on := 4, ground := Ground.phase }, { on := 5, ground := Ground.phase }, { on := 6, ground := Ground.phase }, { on := 7, ground := Ground.phase }, { on := 8, ground := Ground.phase }, { on := 9, ground := Ground.phase }, { on := 10, ground := Ground.phase }, { on := 11, ground := Ground.phase }, { on := 12, ground := Ground.phase }], guard := none }) (v := ?_) rfl (by kernel_rfl) (by kernel_rfl) (by kernel_rfl) (fun _ _ _ h => h) (Or.inl ⟨by rfl, ?_⟩) (by assumption) ?_
                    rotate_left
                    · (intro w hSw; (try dsimp only at hSw); go_simp) <;> with_reducible rfl
                    try simp only [Act.put, List.setIfInBounds_toArray, List.set_cons_zero, List.set_cons_succ]
                    refine wpAnyH_take (i := 14) (oi := { dst := some 122, op := Op.fieldAddr 34 (Operand.tmp 121) 1, type := 0, pos := "law.go:76", after := #[{ on := 13, ground := Ground.data }, { on := 0, ground := Ground.phase }, { on := 1, ground := Ground.phase }, { on := 2, ground := Ground.phase }, { on := 3, ground := Ground.phase }, { on := 4, ground := Ground.phase }, { on := 5, ground := Ground.phase }, { on := 6, ground := Ground.phase }, { on := 7, ground := Ground.phase }, { on := 8, ground := Ground.phase }, { on := 9, ground := Ground.phase }, { on := 10, ground := Ground.phase }, { on := 11, ground := Ground.phase }, { on := 12, ground := Ground.phase }], guard := none }) (v := ?_) rfl (by kernel_rfl) (by kernel_rfl) (by kernel_rfl) (fun _ _ _ h => h) (Or.inl ⟨by rfl, ?_⟩) (by assumption) ?_
                    rotate_left
                    · (intro w hSw; (try dsimp only at hSw); go_simp) <;> with_reducible rfl
                    try simp only [Act.put, List.setIfInBounds_toArray, List.set_cons_zero, List.set_cons_succ]
                    refine wpAnyH_ready (rs := [15]) (by kernel_rfl) (by simp) ?_
                    refine AllReadyH.cons (o := { dst := none, op := Op.store 32 (Operand.tmp 122) (Operand.tmp 120), type := 0, pos := "law.go:76", after := #[{ on := 14, ground := Ground.data }, { on := 12, ground := Ground.data }, { on := 12, ground := Ground.chain }, { on := 0, ground := Ground.phase }, { on := 1, ground := Ground.phase }, { on := 2, ground := Ground.phase }, { on := 3, ground := Ground.phase }, { on := 4, ground := Ground.phase }, { on := 5, ground := Ground.phase }, { on := 6, ground := Ground.phase }, { on := 7, ground := Ground.phase }, { on := 8, ground := Ground.phase }, { on := 9, ground := Ground.phase }, { on := 10, ground := Ground.phase }, { on := 11, ground := Ground.phase }, { on := 12, ground := Ground.phase }], guard := none }) rfl (fun K hK => ?_) AllReadyH.nil
                    go_simp
                    refine hK.out _ _ hqZ (fun hHeld => ?_)
                    clear hK K
                    refine wpAnyH_done (by kernel_rfl) ?_ _
                    go_wp2_with fail
                    go_roundw
                    case rel =>
                      refine ⟨rfl, i + 1, by omega, by go_num, _, _, HZ.out, fun k hk => ?_⟩
                      by_cases e : k = kk
                      · subst e; rw [upd_same]; simp; omega
                      · rw [upd_other _ _ e]; have := HL.out k hk; omega
                    case measure => simp [intOf]; omega
                  · go_simp
                    refine hK.out _ _ qA (fun hHeld => ?_)
                    clear hK K
                    refine wpAnyH_ready (rs := [8]) (by kernel_rfl) (by simp) ?_
                    refine AllReadyH.cons (o := { dst := some 116, op := Op.load 32 (Operand.tmp 115), type := 32, pos := "law.go:76", after := #[{ on := 7, ground := Ground.data }], guard := none }) rfl (fun K hK => ?_) AllReadyH.nil
                    go_simp
                    refine hK.out _ _ (by assumption) (fun hHeld => ?_)
                    clear hK K
                    refine wpAnyH_ready (rs := [12]) (by kernel_rfl) (by simp) ?_
                    refine AllReadyH.cons (o := { dst := some 120, op := Op.call { callee := Callee.builtin Builtin.append, args := #[Operand.tmp 116, Operand.tmp 119], argTypes := #[32, 32] }, type := 32, pos := "law.go:76", after := #[{ on := 8, ground := Ground.data }, { on := 11, ground := Ground.data }], guard := none }) rfl (fun K hK => ?_) AllReadyH.nil
                    refine step_appC rfl (.tmp 116) (.tmp 119) 32 rfl w.heap.size 2 i0 (.int .i64 0) 1 8 Try.underlying32 hi0 hz0 hz1 hz2 rfl (by decide) (.slice va (L kk).length vc) (L kk).length ((L kk).map (Value.int .i64)) rfl HOA.out ⟨w5.heap.size, 0, none⟩ 1 1 [.int .i64 op.n] rfl rfl HNew.out.1 HNew.out.2 (by unfold maxLen; omega) (by omega) HBas.out ?_
                    intro v' w6 ho hgrow hbk
                    obtain ⟨a', c', hv', hq6, gc6, gf6, lD6, lbd6, lpo6, hqZ, HZ⟩ := HStep.out v' w6 ho hgrow hbk
                    clear ho hgrow hbk
                    subst hv'
                    refine hK.out _ _ hq6 (fun hHeld => ?_)
                    clear hK K
                    refine wpAnyH_take (i := 13) (oi := { dst := some 121, op := Op.nilCheck (Operand.tmp 110), type := 0, pos := "law.go:76", after := #[{ on := 2, ground := Ground.data }, { on := 0, ground := Ground.phase }, { on := 1, ground := Ground.phase }, { on := 2, ground := Ground.phase }, { on := 3, ground := Ground.phase }, { on := 4, ground := Ground.phase }, { on := 5, ground := Ground.phase }, { on := 6, ground := Ground.phase }, { on := 7, ground := Ground.phase }, { on := 8, ground := Ground.phase }, { on := 9, ground := Ground.phase }, { on := 10, ground := Ground.phase }, { on := 11, ground := Ground.phase }, { on := 12, ground := Ground.phase }], guard := none }) (v := ?_) rfl (by kernel_rfl) (by kernel_rfl) (by kernel_rfl) (fun _ _ _ h => h) (Or.inl ⟨by rfl, ?_⟩) (by assumption) ?_
                    rotate_left
                    · (intro w hSw; (try dsimp only at hSw); go_simp) <;> with_reducible rfl
                    try simp only [Act.put, List.setIfInBounds_toArray, List.set_cons_zero, List.set_cons_succ]
                    refine wpAnyH_take (i := 14) (oi := { dst := some 122, op := Op.fieldAddr 34 (Operand.tmp 121) 1, type := 0, pos := "law.go:76", after := #[{ on := 13, ground := Ground.data }, { on := 0, ground := Ground.phase }, { on := 1, ground := Ground.phase }, { on := 2, ground := Ground.phase }, { on := 3, ground := Ground.phase }, { on := 4, ground := Ground.phase }, { on := 5, ground := Ground.phase }, { on := 6, ground := Ground.phase }, { on := 7, ground := Ground.phase }, { on := 8, ground := Ground.phase }, { on := 9, ground := Ground.phase }, { on := 10, ground := Ground.phase }, { on := 11, ground := Ground.phase }, { on := 12, ground := Ground.phase }], guard := none }) (v := ?_) rfl (by kernel_rfl) (by kernel_rfl) (by kernel_rfl) (fun _ _ _ h => h) (Or.inl ⟨by rfl, ?_⟩) (by assumption) ?_
                    rotate_left
                    · (intro w hSw; (try dsimp only at hSw); go_simp) <;> with_reducible rfl
                    try simp only [Act.put, List.setIfInBounds_toArray, List.set_cons_zero, List.set_cons_succ]
                    refine wpAnyH_ready (rs := [15]) (by kernel_rfl) (by simp) ?_
                    refine AllReadyH.cons (o := { dst := none, op := Op.store 32 (Operand.tmp 122) (Operand.tmp 120), type := 0, pos := "law.go:76", after := #[{ on := 14, ground := Ground.data }, { on := 12, ground := Ground.data }, { on := 12, ground := Ground.chain }, { on := 0, ground := Ground.phase }, { on := 1, ground := Ground.phase }, { on := 2, ground := Ground.phase }, { on := 3, ground := Ground.phase }, { on := 4, ground := Ground.phase }, { on := 5, ground := Ground.phase }, { on := 6, ground := Ground.phase }, { on := 7, ground := Ground.phase }, { on := 8, ground := Ground.phase }, { on := 9, ground := Ground.phase }, { on := 10, ground := Ground.phase }, { on := 11, ground := Ground.phase }, { on := 12, ground := Ground.phase }], guard := none }) rfl (fun K hK => ?_) AllReadyH.nil
                    go_simp
                    refine hK.out _ _ hqZ (fun hHeld => ?_)
                    clear hK K
                    refine wpAnyH_done (by kernel_rfl) ?_ _
                    go_wp2_with fail
                    go_roundw
                    case rel =>
                      refine ⟨rfl, i + 1, by omega, by go_num, _, _, HZ.out, fun k hk => ?_⟩
                      by_cases e : k = kk
                      · subst e; rw [upd_same]; simp; omega
                      · rw [upd_other _ _ e]; have := HL.out k hk; omega
                    case measure => simp [intOf]; omega
                · by_cases e2 : op.kind = 2
                  · obtain ⟨a, c, hsees, hnw⟩ := now_fix HN.out.1 HN.out.2 hm64
                    have HNw : Hid (∀ n : Nat, Calls Try.prog 10 #[.pointer (some ⟨D kk, 0, none⟩)] (W4.drewN n) fun e w' => e = .returned (.slice a (lastN m (L kk)).length c) ∧ ∃ k, w' = (W4.drewN n).drewN k) := fun n => hnw _ rfl
                    have HAt : Hid (∀ n : Nat, Calls Try.prog 9 #[.pointer (some ⟨p, 0, none⟩), .slice a (lastN m (L kk)).length c, .int .i64 op.n] (W4.drewN n) fun e w' => e = .returned (.bool true) ∧ ∃ k, w' = (W4.drewN n).drewN k) := fun n => by
                      have hg := HG.out
                      have e0 : lastN m ((L kk).map (Value.int .i64)) = (lastN m (L kk)).map (Value.int .i64) := by simp [lastN]
                      rw [e0] at hg
                      exact at_any (w := W4.drewN n) hg (hsees.of_heap rfl) op.n
                    clear hnw hsees
                    generalize (lastN m (L kk)).length = q at *
                    go_wp2_with fail
                    go_quiet (first | (go_at_call 9; exact Calls.quiet_of (HAt.out _)) | (go_at_call 10; exact Calls.quiet_of (HNw.out _)))
                    have HR6 : Hid (RsK w (W4.drewN nq) 2 br bd mo P D V L) := HR5.out.below (below_drewN (Below.refl _ _) _)
                    clear HAt HNw HR5 HN HG
                    go_wp2_with fail
                    go_roundw
                    case rel => exact ⟨rfl, i + 1, by omega, by go_num, V, L, HR6.out, fun k hk => by have := HL.out k hk; omega⟩
                    case measure => simp [intOf]; omega
                  · by_cases e3 : op.kind = 3
                    · have HLn : Hid (∀ n : Nat, Calls Try.prog 11 #[.pointer (some ⟨p, 0, none⟩)] (W4.drewN n) fun e w' => e = .returned (.int .i64 (lastN m (L kk)).length) ∧ w' = W4.drewN n) := fun n => by
                        have := lenI_any (w := W4.drewN n) HG.out
                        rw [lastN_length, List.length_map] at this
                        rw [lastN_length]
                        exact this
                      obtain ⟨a, c, _, hnw⟩ := now_fix HN.out.1 HN.out.2 hm64
                      have HNw : Hid (∀ n : Nat, Calls Try.prog 10 #[.pointer (some ⟨D kk, 0, none⟩)] (W4.drewN n) fun e w' => e = .returned (.slice a (lastN m (L kk)).length c) ∧ ∃ k, w' = (W4.drewN n).drewN k) := fun n => hnw _ rfl
                      clear hnw
                      generalize (lastN m (L kk)).length = q at *
                      go_wp2_with fail
                      go_quiet (first | (go_at_call 11; exact Calls.quiet_of_same (HLn.out _)) | (go_at_call 10; exact Calls.quiet_of (HNw.out _)))
                      have HR6 : Hid (RsK w (W4.drewN nq) 2 br bd mo P D V L) := HR5.out.below (below_drewN (Below.refl _ _) _)
                      clear HLn HNw HR5 HN HG
                      go_wp2_with fail
                      go_roundw
                      case rel => exact ⟨by simp, i + 1, by omega, by go_num, V, L, HR6.out, fun k hk => by have := HL.out k hk; omega⟩
                      case measure => simp [intOf]; omega
                    · by_cases e4 : op.kind = 4
                      · go_wp2_with fail
                        go_at_call 12
                        refine (clearI_any HG.out).mono ?_
                        rintro e w5 ⟨rfl, h5, k5⟩
                        obtain ⟨g9, _, gn, _, lD5, lbd5, _⟩ := HR5.out.past hk2 hk2 HPK.out.1 k5
                        have HR6 : Hid (RsK w (w5.setCell ⟨D kk, 1, none⟩ (.slice none 0 0)) 2 br bd mo P D (upd V kk (.slice none 0 0)) (upd L kk [])) := HR5.out.cleared hk2 HPK.out.1 k5 gn (by rw [HPK.out.2]; exact h5)
                        have gc1 : w5.cell? ⟨D kk, 1, none⟩ = some (V kk) := cell_of_row w5 _ 1 _ _ _ gn
                        have gf1 : w5.frozen? ⟨D kk, 1, none⟩ = false := frozen_of_row w5 _ 1 _ _ gn
                        clear gn h5 k5 HR5 HG HN
                        go_wp2_with fail
                        go_roundw
                        case rel =>
                          refine ⟨rfl, i + 1, by omega, by go_num, _, _, HR6.out, fun k hk => ?_⟩
                          by_cases e : k = kk
                          · subst e; rw [upd_same]; exact Nat.zero_le _
                          · rw [upd_other _ _ e]; have := HL.out k hk; omega
                        case measure => simp [intOf]; omega
                      · go_wp2_with fail
                        go_roundw
                        case rel => exact ⟨rfl, i + 1, by omega, by go_num, V, L, HR5.out, fun k hk => by have := HL.out k hk; omega⟩
                        case measure => simp [intOf]; omega
          · obtain rfl : i = ops.length := by omega
            have HR2 : Hid (RsK w wr 2 br bd mo P D V L) := HR.out.1
            clear HR H3 hlt hi HOK
            go_wp2_with fail
            go_loopw [7, 18] (fun vo vi wr => vo = .bool true ∧ ∃ k : Nat, k ≤ 2 ∧ vi = .int .i64 k ∧ Hid (RsK w wr 2 br bd mo P D V L)) (fun _ vi _ => 2 - (intOf vi).toNat)
            case atStart => exact ⟨rfl, 0, Nat.zero_le _, rfl, HR2.out⟩
            case round =>
              clear HR2
              obtain ⟨rfl, kk, hk, rfl, HR⟩ := hrel
              by_cases hk2 : kk < 2
              · have d8 : wr.cell? ⟨br, kk, none⟩ = some (ptrO (P kk)) := by rw [HR.out.rr.cell hk2, if_pos hk2]
                have d9 : wr.cell? ⟨bd, kk, none⟩ = some (.pointer (some ⟨D kk, 0, none⟩)) := by rw [HR.out.rd.cell hk2, if_pos hk2]
                have lbr := HR.out.rr.lt
                have lbd := HR.out.rd.lt
                cases hP : P kk with
                | none =>
                  rw [hP] at d8
                  go_wp2_with fail
                  go_roundw
                  case rel => exact ⟨rfl, kk + 1, by omega, by go_num, HR.out⟩
                  case measure => simp [intOf]; omega
                | some p =>
                  rw [hP] at d8
                  have d8' : wr.cell? ⟨br, kk, none⟩ = some (.pointer (some ⟨p, 0, none⟩)) := d8
                  obtain ⟨⟨hm0, hm1⟩, hpB, hrg⟩ := HR.out.ring kk p hk2 hP
                  obtain ⟨m, hm⟩ : ∃ m : Nat, mo kk = m := ⟨(mo kk).toNat, by omega⟩
                  have hm64 : m ≤ 64 := by omega
                  have hnum := HR.out.num kk hk2
                  have hown := HR.out.own kk hk2
                  rw [hm] at hrg hnum
                  simp only [Int.toNat_natCast] at hrg
                  obtain ⟨a, c, hsees, hnw⟩ := now_fix hnum hown hm64
                  have e0 : lastN m ((L kk).map (Value.int .i64)) = (lastN m (L kk)).map (Value.int .i64) := by simp [lastN]
                  rw [e0] at hrg
                  have hll : (lastN m (L kk)).length ≤ 64 := by rw [lastN_length]; omega
                  have HG : Hid (IsRg 72 wr p m ((lastN m (L kk)).map (Value.int .i64)) ∧ SeesI wr (.slice a (lastN m (L kk)).length c) (lastN m (L kk))) := ⟨hrg, hsees⟩
                  have HNw : Hid (Calls Try.prog 10 #[.pointer (some ⟨D kk, 0, none⟩)] wr fun e w' => e = .returned (.slice a (lastN m (L kk)).length c) ∧ ∃ k, w' = wr.drewN k) := hnw wr rfl
                  generalize lastN m (L kk) = ys at *
                  clear hrg hsees hnw hnum hown hm hm0 hm1 d8 e0 hP
                  go_wp2_with fail
                  go_at_call 10
                  refine (HNw.out).mono ?_
                  rintro e w3 ⟨rfl, n3, hw3⟩
                  have HG3 : Hid (IsRg 72 w3 p m (ys.map (Value.int .i64)) ∧ SeesI w3 (.slice a ys.length c) ys ∧ RsK w w3 2 br bd mo P D V L) := by
                    subst hw3
                    exact ⟨HG.out.1, HG.out.2.of_heap rfl, HR.out.below (below_drewN (Below.refl _ _) _)⟩
                  have d8 : w3.cell? ⟨br, kk, none⟩ = some (.pointer (some ⟨p, 0, none⟩)) := by subst hw3; exact d8'
                  have lbr3 : br < w3.heap.size := by subst hw3; exact lbr
                  clear hw3 HG HR HNw d8' d9 lbr lbd
                  go_wp2_with fail
                  go_at_call 11
                  refine (lenI_any HG3.out.1).mono ?_
                  rintro e w4 ⟨rfl, rfl⟩
                  rw [List.length_map]
                  go_wp2_with fail
                  go_loopw [7, 20] (fun vo vi wr => vo = .bool true ∧ ∃ j : Nat, j ≤ ys.length + 2 ∧ vi = .int .i64 ((j : Int) - 1) ∧ Hid (IsRg 72 wr p m (ys.map (Value.int .i64)) ∧ SeesI wr (.slice a ys.length c) ys ∧ RsK w wr 2 br bd mo P D V L ∧ wr.cell? ⟨br, kk, none⟩ = some (.pointer (some ⟨p, 0, none⟩)))) (fun _ vi _ => ys.length + 2 - (intOf vi + 1).toNat)
                  case atStart => exact ⟨by simp, 0, Nat.zero_le _, rfl, HG3.out.1, HG3.out.2.1, HG3.out.2.2, d8⟩
                  case round =>
                    clear HG3 d8
                    obtain ⟨rfl, j, hj, rfl, HJ⟩ := hrel
                    have d8 := HJ.out.2.2.2
                    have lbr := HJ.out.2.2.1.rr.lt
                    by_cases hjl : j < ys.length + 2
                    · have hle : (j : Int) - 1 ≤ ys.length := by omega
                      go_wp2_with fail
                      go_at_call 9
                      refine (at_any HJ.out.1 HJ.out.2.1 ((j : Int) - 1)).mono ?_
                      rintro e w5 ⟨rfl, n5, hw5⟩
                      have HJ5 : Hid (IsRg 72 w5 p m (ys.map (Value.int .i64)) ∧ SeesI w5 (.slice a ys.length c) ys ∧ RsK w w5 2 br bd mo P D V L ∧ w5.cell? ⟨br, kk, none⟩ = some (.pointer (some ⟨p, 0, none⟩))) := by
                        subst hw5
                        exact ⟨HJ.out.1, HJ.out.2.1.of_heap rfl, HJ.out.2.2.1.below (below_drewN (Below.refl _ _) _), d8⟩
                      clear hw5 HJ d8 lbr
                      go_wp2_with fail
                      go_roundw
                      case rel => exact ⟨rfl, j + 1, by omega, by go_num, HJ5⟩
                      case measure => simp [intOf]; omega
                    · have hgt : (ys.length : Int) < (j : Int) - 1 := by omega
                      have HRR : Hid (RsK w wr 2 br bd mo P D V L) := HJ.out.2.2.1
                      clear HJ
                      go_wp2_with fail
                      go_roundw
                      case rel => exact ⟨rfl, kk + 1, by omega, by go_num, HRR⟩
                      case measure => simp [intOf]; omega
              · obtain rfl : kk = 2 := by omega
                go_wp2_with fail
                go_ret
                exact ⟨rfl, HR.out.bel⟩

end Go.Proofs.Ytcbbclniginciaa
