/- txn.Read at the bytes of a transaction that may be: that transaction, in memory of its own. -/
import Derived.Test.YtochbjafdcbckaaGreatDoorWfJJ
import Derived.Test.YtochbjafdcbckaaGreatDoorPkKJ
import Derived.Test.YtochbjafdcbckaaGreatDoorWorks4J
import Derived.Test.YtochbjafdcbckaaGreatDoorChkTJ
import Derived.Test.YtochbjafdcbckaaGreatDoorWriterJ
import Derived.Deep.MidRow
import Derived.Deep.CutRange
namespace Go.Proofs.YtochbjafdcbckaaGreatDoor
open Go.RowKit
set_option maxRecDepth 8000

theorem encOut_ne (r : Rq) : encOut r ≠ [] := by
  cases r with
  | mk f n ops =>
    rw [encOut_mk]
    repeat' split
    all_goals simp [encP]

set_option maxHeartbeats 8000000 in
theorem read_bk (t : TxD) (hok : txOk t = true) (hg : t.good) (u : Value) (w : World) (hu : Sees w u (txB t)) (hn : Nam w) :
    Calls Tryz.prog 119 #[u] w fun e w' => ∃ rc, e = .returned (.tuple #[.agg (txHead t ++ rc).toArray, .int .i64 0]) ∧ RqIn w' (fun k => w.heap.size < k ∧ k < w'.heap.size) rc t.rq ∧ Below w.heap.size w w' := by
  have hlen := txB_t t hok
  have hby := byts_txB t hok hg
  have hm : mayP 8 0 t.rq = true := by
    simp only [txOk, Bool.and_eq_true] at hok
    exact hok.2
  have HCK : Hid (∀ W cs', SeesTx W cs' t → Nam W → Calls Tryz.prog 116 #[.agg cs'.toArray] W fun r w' => r = .returned (.int .i64 0) ∧ Below W.heap.size W w') := fun W cs' hh hN => by
    have := check_any cs' t W hh hg hN
    rw [hok] at this
    exact this
  have HGT : Hid _ := hg
  obtain ⟨ep, tn, srv, boot, num, r⟩ := t
  simp only at hm
  obtain ⟨R5, hR5⟩ : ∃ R5, R5 = encOut r := ⟨_, rfl⟩
  obtain ⟨R4, hR4⟩ : ∃ R4, R4 = be8 (up64 num) ++ R5 := ⟨_, rfl⟩
  obtain ⟨R3, hR3⟩ : ∃ R3, R3 = be4 boot ++ R4 := ⟨_, rfl⟩
  obtain ⟨R2, hR2⟩ : ∃ R2, R2 = [srv % 256] ++ R3 := ⟨_, rfl⟩
  obtain ⟨R1, hR1⟩ : ∃ R1, R1 = be4 tn ++ R2 := ⟨_, rfl⟩
  obtain ⟨R0, hR0⟩ : ∃ R0, R0 = be4 ep ++ R1 := ⟨_, rfl⟩
  have eb : txB ⟨ep, tn, srv, boot, num, r⟩ = R0 := by rw [hR0, hR1, hR2, hR3, hR4, hR5]; simp [txB, headB]
  rw [eb] at hlen hby hu
  have B0 : Hid (Byts R0) := hby
  have B1 : Hid (Byts R1) := by have h1 := B0.out; rw [hR0] at h1; exact h1.right
  have B2 : Hid (Byts R2) := by have h1 := B1.out; rw [hR1] at h1; exact h1.right
  have B3 : Hid (Byts R3) := by have h1 := B2.out; rw [hR2] at h1; exact h1.right
  have B4 : Hid (Byts R4) := by have h1 := B3.out; rw [hR3] at h1; exact h1.right
  have B5 : Hid (Byts R5) := by have h1 := B4.out; rw [hR4] at h1; exact h1.right
  have E0 : Hid _ := hR0
  have E1 : Hid _ := hR1
  have E2 : Hid _ := hR2
  have E3 : Hid _ := hR3
  have E4 : Hid _ := hR4
  have E5 : Hid _ := hR5
  obtain ⟨ao, cap, rfl, _⟩ := id hu
  have HU : Hid (Sees w (.slice ao R0.length cap) R0 ∧ Nam w) := ⟨hu, hn⟩
  have HM : Hid _ := hm
  obtain ⟨L, hL⟩ : ∃ L, L = R0.length := ⟨_, rfl⟩
  rw [← hL] at hlen HU ⊢
  have HLL : Hid _ := hL
  have d0 : decide (4096 < (L : Int)) = false := by simp only [decide_eq_false_iff_not]; omega
  clear hu hn hok hg hby hR0 hR1 hR2 hR3 hR4 hR5 eb hm hL
  obtain ⟨W0, eW⟩ : ∃ W0, W0 = w.alloc (.cells #[.int .u32 0, .int .u32 0, .int .i8 0, .int .u32 0, .int .i64 0, .int .i8 0, .string ⟨#[]⟩, .slice none 0 0, .slice none 0 0, .int .i32 0, .bool false, .bool false, .int .i64 0, .int .i32 0, .slice none 0 0, .slice none 0 0] 37) := ⟨_, rfl⟩
  have HE0 : Hid _ := eW
  have HB0 : Hid (Below w.heap.size w W0 ∧ W0.heap.size = w.heap.size + 1 ∧ W0.heap[w.heap.size]? = some (.cells #[.int .u32 0, .int .u32 0, .int .i8 0, .int .u32 0, .int .i64 0, .int .i8 0, .string ⟨#[]⟩, .slice none 0 0, .slice none 0 0, .int .i32 0, .bool false, .bool false, .int .i64 0, .int .i32 0, .slice none 0 0, .slice none 0 0] 37 (0, 0))) := by
    subst eW; exact ⟨one_alloc _ _, by simp, heap_alloc_new _ _⟩
  clear eW
  go_enter Tryz.func119, Tryz.ntmps119
  go_wp2_with fail
  rw [← HE0.out]
  refine (new_any _ R0 _ (HU.out.1.below HB0.out.1 (Nat.le_refl _)) (by have := HLL.out; omega)).mono ?_
  rintro _ w1 ⟨g, v, rfl, hR, hg1, ho, b1⟩
  obtain ⟨V, eV⟩ : ∃ V, V = w1.alloc (.cells #[.int .u32 0, .int .u32 0, .int .i8 0, .int .u32 0, .int .i64 0, .int .i8 0, .string ⟨#[]⟩, .slice none 0 0, .slice none 0 0, .int .i32 0, .bool false, .bool false, .int .i64 0, .int .i32 0, .slice none 0 0, .slice none 0 0] 37) := ⟨_, rfl⟩
  have HR : Hid (RDs w V g v R0 w1.heap.size #[.int .u32 0, .int .u32 0, .int .i8 0, .int .u32 0, .int .i64 0, .int .i8 0, .string ⟨#[]⟩, .slice none 0 0, .slice none 0 0, .int .i32 0, .bool false, .bool false, .int .i64 0, .int .i32 0, .slice none 0 0, .slice none 0 0]) := by
    have hs := HB0.out.2.1
    have hb01 : Below w.heap.size w w1 := HB0.out.1.trans (b1.mono HB0.out.1.size)
    have hka : Kept w1 V (fun _ => False) := by subst eV; exact (Kept.refl w1 (fun _ => False)).alloc _
    have hvb : Below w.heap.size w V := by subst eV; exact hb01.alloc hb01.size _
    have ho1 : w1.heap[w.heap.size]? = some (.cells #[.int .u32 0, .int .u32 0, .int .i8 0, .int .u32 0, .int .i64 0, .int .i8 0, .string ⟨#[]⟩, .slice none 0 0, .slice none 0 0, .int .i32 0, .bool false, .bool false, .int .i64 0, .int .i32 0, .slice none 0 0, .slice none 0 0] 37 (0, 0)) := by
      rw [b1.block w.heap.size (by omega)]; exact HB0.out.2.2
    refine ⟨hR.kept hka (fun h => h) (fun _ _ h => h), by subst eV; exact heap_alloc_new _ _, hka.heap ho1 (fun h => h), HU.out.2.below hvb HU.out.2.lt, HU.out.2.lt, by omega, lt_of_block hR.1, fun _ k hk => ?_, hvb⟩
    have := ho.lt k hk
    omega
  have HE : Hid _ := eV
  obtain ⟨z, hz⟩ : ∃ z, z = w1.heap.size := ⟨_, rfl⟩
  rw [← hz] at HR
  clear hR hg1 ho b1 HB0 HE0 eV
  go_wp2_with fail
  rw [← HE.out, ← hz]
  clear HE hz
  refine (gU32 (v := v) (rest := R1) ep (by have h1 := HR.out.r; rw [E0.out] at h1; exact h1) (by have h1 := B0.out; rw [E0.out] at h1; exact h1)).mono ?_
  rintro _ w2 ⟨rfl, hr⟩
  obtain ⟨v2, h2⟩ := HR.out.read (by rw [E0.out]; simp [be4]) hr
  have f0 := h2.fr 0
  have c0 := h2.cell 0
  simp at c0
  have HR2 : Hid (RDs w (w2.setCell ⟨z, 0, none⟩ (.int .u32 ep)) g v2 R1 z #[.int .u32 ep, .int .u32 0, .int .i8 0, .int .u32 0, .int .i64 0, .int .i8 0, .string ⟨#[]⟩, .slice none 0 0, .slice none 0 0, .int .i32 0, .bool false, .bool false, .int .i64 0, .int .i32 0, .slice none 0 0, .slice none 0 0]) := h2.set 0 (.int .u32 ep)
  clear hr h2 HR
  go_wp2_with fail
  clear f0 c0
  refine (gU32 (v := v2) (rest := R2) tn (by have h1 := HR2.out.r; rw [E1.out] at h1; exact h1) (by have h1 := B1.out; rw [E1.out] at h1; exact h1)).mono ?_
  rintro _ w3 ⟨rfl, hr⟩
  obtain ⟨v3, h2⟩ := HR2.out.read (by rw [E1.out]; simp [be4]) hr
  have f0 := h2.fr 1
  have c0 := h2.cell 1
  simp at c0
  have HR3 : Hid (RDs w (w3.setCell ⟨z, 1, none⟩ (.int .u32 tn)) g v3 R2 z #[.int .u32 ep, .int .u32 tn, .int .i8 0, .int .u32 0, .int .i64 0, .int .i8 0, .string ⟨#[]⟩, .slice none 0 0, .slice none 0 0, .int .i32 0, .bool false, .bool false, .int .i64 0, .int .i32 0, .slice none 0 0, .slice none 0 0]) := h2.set 1 (.int .u32 tn)
  clear hr h2 HR2
  go_wp2_with fail
  clear f0 c0
  refine (gI8 (v := v3) (rest := R3) srv (by have h1 := HR3.out.r; rw [E2.out] at h1; exact h1) (by have h1 := B2.out; rw [E2.out] at h1; exact h1) HGT.out.s0 HGT.out.s1).mono ?_
  rintro _ w4 ⟨rfl, hr⟩
  obtain ⟨v4, h2⟩ := HR3.out.read (by rw [E2.out]; simp) hr
  have f0 := h2.fr 2
  have c0 := h2.cell 2
  simp at c0
  have HR4 : Hid (RDs w (w4.setCell ⟨z, 2, none⟩ (.int .i8 srv)) g v4 R3 z #[.int .u32 ep, .int .u32 tn, .int .i8 srv, .int .u32 0, .int .i64 0, .int .i8 0, .string ⟨#[]⟩, .slice none 0 0, .slice none 0 0, .int .i32 0, .bool false, .bool false, .int .i64 0, .int .i32 0, .slice none 0 0, .slice none 0 0]) := h2.set 2 (.int .i8 srv)
  clear hr h2 HR3
  go_wp2_with fail
  clear f0 c0
  refine (gU32 (v := v4) (rest := R4) boot (by have h1 := HR4.out.r; rw [E3.out] at h1; exact h1) (by have h1 := B3.out; rw [E3.out] at h1; exact h1)).mono ?_
  rintro _ w5 ⟨rfl, hr⟩
  obtain ⟨v5, h2⟩ := HR4.out.read (by rw [E3.out]; simp [be4]) hr
  have f0 := h2.fr 3
  have c0 := h2.cell 3
  simp at c0
  have HR5 : Hid (RDs w (w5.setCell ⟨z, 3, none⟩ (.int .u32 boot)) g v5 R4 z #[.int .u32 ep, .int .u32 tn, .int .i8 srv, .int .u32 boot, .int .i64 0, .int .i8 0, .string ⟨#[]⟩, .slice none 0 0, .slice none 0 0, .int .i32 0, .bool false, .bool false, .int .i64 0, .int .i32 0, .slice none 0 0, .slice none 0 0]) := h2.set 3 (.int .u32 boot)
  clear hr h2 HR4
  go_wp2_with fail
  clear f0 c0
  refine (gI64 (v := v5) (rest := R5) num (by have h1 := HR5.out.r; rw [E4.out] at h1; exact h1) (by have h1 := B4.out; rw [E4.out] at h1; exact h1) HGT.out.m0 HGT.out.m1).mono ?_
  rintro _ w6 ⟨rfl, hr⟩
  obtain ⟨v6, h2⟩ := HR5.out.read (by rw [E4.out]; simp [be8, be4]) hr
  have f0 := h2.fr 4
  have c0 := h2.cell 4
  simp at c0
  have HR6 : Hid (RDs w (w6.setCell ⟨z, 4, none⟩ (.int .i64 num)) g v6 R5 z #[.int .u32 ep, .int .u32 tn, .int .i8 srv, .int .u32 boot, .int .i64 num, .int .i8 0, .string ⟨#[]⟩, .slice none 0 0, .slice none 0 0, .int .i32 0, .bool false, .bool false, .int .i64 0, .int .i32 0, .slice none 0 0, .slice none 0 0]) := h2.set 4 (.int .i64 num)
  clear hr h2 HR5
  go_wp2_with fail
  clear f0 c0
  refine (proposed_any _).mono ?_
  rintro _ w7 ⟨rfl, b7⟩
  have HR7 : Hid (RDs w w7 g v6 (encOut r ++ []) z #[.int .u32 ep, .int .u32 tn, .int .i8 srv, .int .u32 boot, .int .i64 num, .int .i8 0, .string ⟨#[]⟩, .slice none 0 0, .slice none 0 0, .int .i32 0, .bool false, .bool false, .int .i64 0, .int .i32 0, .slice none 0 0, .slice none 0 0]) := by
    have h1 := HR6.out.later b7
    rw [E5.out] at h1
    rw [List.append_nil]
    exact h1
  have HVL : Hid (∀ k, v6.ownBlock = some k → w.heap.size < k ∧ k < z) := HR7.out.vlt (by rw [List.append_nil]; exact encOut_ne r)
  clear b7 HR6
  have HX := getOut_bk r HM.out HGT.out.rq g v6 [] w7 HR7.out.r (by rw [List.append_nil, ← E5.out]; exact B5.out) HR7.out.nam (by have := HR7.out.ng; have := HR7.out.gl; omega)
  go_wp2_with fail
  refine Calls.mono HX ?_
  clear HX
  rintro _ w8 ⟨cs, rfl, hcl, hrq, hr⟩
  obtain ⟨q0, q1, d0, d1, d2, a0, a1, a2, q4, q5, q6, q7, q8, e0, e1, e2, o0, o1, o2, rfl⟩ := rq_forms hrq.sees
  obtain ⟨v8', x1, x2, x3⟩ := hr
  have hz7 := lt_of_block HR7.out.q
  obtain ⟨v8, h8⟩ := HR7.out.got ⟨⟨v8', x1⟩, x3⟩
  have hth : w8.there z 5 11 := fun j hj => ⟨by
    rw [h8.cell (5 + j), Array.getElem?_eq_getElem (by simp; omega)]
    rfl, h8.fr (5 + j)⟩
  obtain ⟨hrow8, hk8⟩ := stored5 (.int .i8 q0) (.string q1) (.slice d0 d1 d2) (.slice a0 a1 a2) (.int .i32 q4) (.bool q5) (.bool q6) (.int .i64 q7) (.int .i32 q8) (.slice e0 e1 e2) (.slice o0 o1 o2) h8.q
  obtain ⟨U, eU⟩ : ∃ U, U = (((((((((((w8.setCell ⟨z, 5, none⟩ (.int .i8 q0)).setCell ⟨z, 6, none⟩ (.string q1)).setCell ⟨z, 7, none⟩ (.slice d0 d1 d2)).setCell ⟨z, 8, none⟩ (.slice a0 a1 a2)).setCell ⟨z, 9, none⟩ (.int .i32 q4)).setCell ⟨z, 10, none⟩ (.bool q5)).setCell ⟨z, 11, none⟩ (.bool q6)).setCell ⟨z, 12, none⟩ (.int .i64 q7)).setCell ⟨z, 13, none⟩ (.int .i32 q8)).setCell ⟨z, 14, none⟩ (.slice e0 e1 e2)).setCell ⟨z, 15, none⟩ (.slice o0 o1 o2)) := ⟨_, rfl⟩
  rw [← eU] at hrow8 hk8
  have HU8 : Hid (RDs w U g v8 [] z #[.int .u32 ep, .int .u32 tn, .int .i8 srv, .int .u32 boot, .int .i64 num, .int .i8 q0, .string q1, .slice d0 d1 d2, .slice a0 a1 a2, .int .i32 q4, .bool q5, .bool q6, .int .i64 q7, .int .i32 q8, .slice e0 e1 e2, .slice o0 o1 o2] ∧ RqIn U (fun k => w.heap.size < k ∧ k < U.heap.size) [.int .i8 q0, .string q1, .slice d0 d1 d2, .slice a0 a1 a2, .int .i32 q4, .bool q5, .bool q6, .int .i64 q7, .int .i32 q8, .slice e0 e1 e2, .slice o0 o1 o2] r) := by
    have ya := h8.gl
    have yb := h8.gt
    refine ⟨⟨isR_keep h8.r hk8 (by omega) (fun hx => absurd rfl hx), hrow8, hk8.heap h8.o (by omega), h8.nam.kept hk8 (fun k hk' e => by have := h8.ng; omega), h8.ng, h8.gl, h8.gt, fun hx => absurd rfl hx, h8.bel.trans (hk8.below h8.bel.size (fun k e => by omega))⟩, ?_⟩
    have hsz8 := hk8.size
    have hz8 := lt_of_block h8.q
    refine RqIn.kept (F' := fun k => w.heap.size < k ∧ k < U.heap.size) hk8 (fun k hq => ?_) hrq
    rcases hq with e | ⟨e1, e2⟩
    · have h1 := HVL.out k e
      exact ⟨by omega, h1.1, by omega⟩
    · exact ⟨by omega, by omega, by omega⟩
  have HEU : Hid (w8.setCells z 5 (#[.int .i8 q0, .string q1, .slice d0 d1 d2, .slice a0 a1 a2, .int .i32 q4, .bool q5, .bool q6, .int .i64 q7, .int .i32 q8, .slice e0 e1 e2, .slice o0 o1 o2] : Array Value).toList = U) := by
    show _ = _
    rw [eU]
    simp only [World.setCells]
  clear eU h8 hrq x1 x2 x3 hcl HR7 hz7 hrow8 hk8
  go_upto_region 11 with (refine wpList_store_mid rfl 35 _ _ rfl z 5 #[.int .i8 q0, .string q1, .slice d0 d1 d2, .slice a0 a1 a2, .int .i32 q4, .bool q5, .bool q6, .int .i64 q7, .int .i32 q8, .slice e0 e1 e2, .slice o0 o1 o2] rfl rfl hth rq_size (by simp [Value.oneCell']) ?_)
  rw [HEU.out]
  clear HEU hth
  go_wp2_with fail
  refine (rEnd_any g v8 [] 0 _ HU8.out.1.r).mono ?_
  rintro _ w9 ⟨rfl, rfl⟩
  simp only [ne_eq, not_true_eq_false, if_false, if_true]
  have c0 : w9.cell? ⟨z, 0, none⟩ = some (.int .u32 ep) := HU8.out.1.cell 0
  have c1 : w9.cell? ⟨z, 1, none⟩ = some (.int .u32 tn) := HU8.out.1.cell 1
  have c2 : w9.cell? ⟨z, 2, none⟩ = some (.int .i8 srv) := HU8.out.1.cell 2
  have c3 : w9.cell? ⟨z, 3, none⟩ = some (.int .u32 boot) := HU8.out.1.cell 3
  have c4 : w9.cell? ⟨z, 4, none⟩ = some (.int .i64 num) := HU8.out.1.cell 4
  have c5 : w9.cell? ⟨z, 5, none⟩ = some (.int .i8 q0) := HU8.out.1.cell 5
  have c6 : w9.cell? ⟨z, 6, none⟩ = some (.string q1) := HU8.out.1.cell 6
  have c7 : w9.cell? ⟨z, 7, none⟩ = some (.slice d0 d1 d2) := HU8.out.1.cell 7
  have c8 : w9.cell? ⟨z, 8, none⟩ = some (.slice a0 a1 a2) := HU8.out.1.cell 8
  have c9 : w9.cell? ⟨z, 9, none⟩ = some (.int .i32 q4) := HU8.out.1.cell 9
  have c10 : w9.cell? ⟨z, 10, none⟩ = some (.bool q5) := HU8.out.1.cell 10
  have c11 : w9.cell? ⟨z, 11, none⟩ = some (.bool q6) := HU8.out.1.cell 11
  have c12 : w9.cell? ⟨z, 12, none⟩ = some (.int .i64 q7) := HU8.out.1.cell 12
  have c13 : w9.cell? ⟨z, 13, none⟩ = some (.int .i32 q8) := HU8.out.1.cell 13
  have c14 : w9.cell? ⟨z, 14, none⟩ = some (.slice e0 e1 e2) := HU8.out.1.cell 14
  have c15 : w9.cell? ⟨z, 15, none⟩ = some (.slice o0 o1 o2) := HU8.out.1.cell 15
  go_wp2_with fail
  clear c0 c1 c2 c3 c4 c5 c6 c7 c8 c9 c10 c11 c12 c13 c14 c15
  refine (HCK.out _ [.int .u32 ep, .int .u32 tn, .int .i8 srv, .int .u32 boot, .int .i64 num, .int .i8 q0, .string q1, .slice d0 d1 d2, .slice a0 a1 a2, .int .i32 q4, .bool q5, .bool q6, .int .i64 q7, .int .i32 q8, .slice e0 e1 e2, .slice o0 o1 o2] ⟨_, rfl, HU8.out.2.sees⟩ HU8.out.1.nam).mono ?_
  rintro _ w10 ⟨rfl, b10⟩
  have H10 : Hid (RDs w w10 g v8 [] z #[.int .u32 ep, .int .u32 tn, .int .i8 srv, .int .u32 boot, .int .i64 num, .int .i8 q0, .string q1, .slice d0 d1 d2, .slice a0 a1 a2, .int .i32 q4, .bool q5, .bool q6, .int .i64 q7, .int .i32 q8, .slice e0 e1 e2, .slice o0 o1 o2] ∧ RqIn w10 (fun k => w.heap.size < k ∧ k < w10.heap.size) [.int .i8 q0, .string q1, .slice d0 d1 d2, .slice a0 a1 a2, .int .i32 q4, .bool q5, .bool q6, .int .i64 q7, .int .i32 q8, .slice e0 e1 e2, .slice o0 o1 o2] r) := ⟨HU8.out.1.later b10, RqIn.kept (Below.kept b10) (fun k hq => ⟨by have := hq.2; omega, hq.1, Nat.lt_of_lt_of_le hq.2 b10.size⟩) HU8.out.2⟩
  clear b10 HU8 HCK
  have hld1 := H10.out.1.q
  have hst1 := H10.out.1.o
  have hrow := setRow_heap w10 w.heap.size _ #[.int .u32 ep, .int .u32 tn, .int .i8 srv, .int .u32 boot, .int .i64 num, .int .i8 q0, .string q1, .slice d0 d1 d2, .slice a0 a1 a2, .int .i32 q4, .bool q5, .bool q6, .int .i64 q7, .int .i32 q8, .slice e0 e1 e2, .slice o0 o1 o2] _ _ hst1
  have hk : Kept w10 (w10.setRow w.heap.size #[.int .u32 ep, .int .u32 tn, .int .i8 srv, .int .u32 boot, .int .i64 num, .int .i8 q0, .string q1, .slice d0 d1 d2, .slice a0 a1 a2, .int .i32 q4, .bool q5, .bool q6, .int .i64 q7, .int .i32 q8, .slice e0 e1 e2, .slice o0 o1 o2]) (fun k => k = w.heap.size) := ⟨rfl, rfl, rfl, by simp, fun k _ hn => setRow_other _ _ _ _ hn⟩
  have HF : Hid _ := And.intro hrow hk
  clear hrow hk
  go_wp2_with (first | (refine wpList_load_row rfl 37 _ rfl z rfl 37 _ (0, 0) _ hld1 Tryz.underlying37 rfl tx_size ?_) | (refine wpList_store_row rfl 37 _ _ rfl w.heap.size #[.int .u32 ep, .int .u32 tn, .int .i8 srv, .int .u32 boot, .int .i64 num, .int .i8 q0, .string q1, .slice d0 d1 d2, .slice a0 a1 a2, .int .i32 q4, .bool q5, .bool q6, .int .i64 q7, .int .i32 q8, .slice e0 e1 e2, .slice o0 o1 o2] rfl rfl 37 _ hst1 tx_size rfl (by simp [Value.oneCell']) ?_))
  obtain ⟨hrow, hk⟩ := HF.out
  have hbl : Below w.heap.size w (w10.setRow w.heap.size #[.int .u32 ep, .int .u32 tn, .int .i8 srv, .int .u32 boot, .int .i64 num, .int .i8 q0, .string q1, .slice d0 d1 d2, .slice a0 a1 a2, .int .i32 q4, .bool q5, .bool q6, .int .i64 q7, .int .i32 q8, .slice e0 e1 e2, .slice o0 o1 o2]) := H10.out.1.bel.trans (hk.below H10.out.1.bel.size (fun k e => by omega))
  refine bodyPost_ret (v := .tuple #[.agg #[.int .u32 ep, .int .u32 tn, .int .i8 srv, .int .u32 boot, .int .i64 num, .int .i8 q0, .string q1, .slice d0 d1 d2, .slice a0 a1 a2, .int .i32 q4, .bool q5, .bool q6, .int .i64 q7, .int .i32 q8, .slice e0 e1 e2, .slice o0 o1 o2], .int .i64 0]) ?_ rfl ⟨[.int .i8 q0, .string q1, .slice d0 d1 d2, .slice a0 a1 a2, .int .i32 q4, .bool q5, .bool q6, .int .i64 q7, .int .i32 q8, .slice e0 e1 e2, .slice o0 o1 o2], rfl, ?_, hbl⟩
  · have hld := run_loadVar_row (P := Tryz.prog) _ _ _ 37 _ _ _ hrow Tryz.underlying37 rfl tx_size
    rw [results_cell_tmp Tryz.results119]
    show ((asAddr (.pointer (some ⟨w.heap.size, 0, none⟩))).run Tryz.prog _).andThen _ = _
    simp only [asAddr, Sem.run_pure, Result.andThen_ok, hld]
    rfl
  · exact RqIn.kept hk (fun k hq => ⟨by have := hq.1; omega, hq.1, by simpa using hq.2⟩) H10.out.2
end Go.Proofs.YtochbjafdcbckaaGreatDoor
