/- get of package txn at bytes that were laid: a Multi; every transaction's request. -/
import Derived.Test.YtochbjafdcbckaaGreatDoorWfHJ
namespace Go.Proofs.YtochbjafdcbckaaGreatDoor
open Go.RowKit
set_option maxRecDepth 8000

theorem gz_832 : ∀ b0 b1 b2 b3 b4 b5 b6 b7 b8 b9 : Bool, (bits .andNot .u16 (fillz b0 b1 b2 b3 b4 b5 b6 b7 b8 b9) 832 == 0) = (!b0 && !b1 && !b2 && !b3 && !b4 && !b5 && !b7) := by decide +kernel

set_option maxHeartbeats 4000000 in
theorem get_multi (ses : Int) (who : List IdD) (n : Nat) (ops : Fin n → Rq) (g : Nat) (vr : Value) (rest : List Int) (w : World) (hok : ∀ i, (ops i).inOk = true) (hgd : ∀ i, (ops i).good) (hn8 : n ≤ 8)
    (h : IsR w g vr ([6] ++ (be8 (up64 ses) ++ ((be4 who.length ++ idsB who) ++ ((be4 n ++ opsB ops n) ++ rest)))) 0) (hb : Byts ([6] ++ (be8 (up64 ses) ++ ((be4 who.length ++ idsB who) ++ ((be4 n ++ opsB ops n) ++ rest))))) (hn : Nam w) (hg : 1 < g)
    (hs0 : -9223372036854775808 ≤ ses) (hs1 : ses ≤ 9223372036854775807) (hwl : who.length ≤ 4) (hwe : ∀ x ∈ who, x.scheme.size ≤ 24 ∧ x.name.size ≤ 24) :
    Calls Tryz.prog 128 #[lay 8 0, .pointer (some ⟨g, 0, none⟩)] w fun r w' => ∃ wa wc' oa oc' cs, r = .returned (.agg #[.int .i8 6, .string ⟨#[]⟩, .slice none 0 0, .slice none 0 0, .int .i32 0, .bool false, .bool false, .int .i64 ses, .int .i32 0, .slice wa who.length wc', .slice oa n oc']) ∧ SeesR w' (.slice wa who.length wc') 2 (who.map IdD.cells) ∧ (∀ k, (Value.slice wa who.length wc').ownBlock = some k → w.heap.size ≤ k ∧ k < w'.heap.size) ∧ cs.length = n ∧ SeesR w' (.slice oa n oc') 11 cs ∧ (∀ k, (Value.slice oa n oc').ownBlock = some k → w.heap.size ≤ k ∧ k < w'.heap.size) ∧ (∀ i (hi : i < cs.length) (h : i < n), RqIn w' (fun k => vr.ownBlock = some k ∨ (w.heap.size ≤ k ∧ k < w'.heap.size)) cs[i] (ops ⟨i, h⟩)) ∧ ReadsTo w g vr ⟨0, rest, 0⟩ w' := by
  have m0 : (bits .and .u16 832 1 != 0) = false := by decide
  have m1 : (bits .and .u16 832 2 != 0) = false := by decide
  have m2 : (bits .and .u16 832 4 != 0) = false := by decide
  have m3 : (bits .and .u16 832 8 != 0) = false := by decide
  have m4 : (bits .and .u16 832 16 != 0) = false := by decide
  have m5 : (bits .and .u16 832 32 != 0) = false := by decide
  have m6 : (bits .and .u16 832 64 != 0) = true := by decide
  have m7 : (bits .and .u16 832 128 != 0) = false := by decide
  have m8 : (bits .and .u16 832 256 != 0) = true := by decide
  have m9 : (bits .and .u16 832 512 != 0) = true := by decide
  obtain ⟨R3, hR3⟩ : ∃ R3, R3 = (be4 (n : Int) ++ opsB ops n) ++ rest := ⟨_, rfl⟩
  obtain ⟨R2, hR2⟩ : ∃ R2, R2 = (be4 (who.length : Int) ++ idsB who) ++ R3 := ⟨_, rfl⟩
  obtain ⟨R1, hR1⟩ : ∃ R1, R1 = be8 (up64 ses) ++ R2 := ⟨_, rfl⟩
  rw [← hR3, ← hR2, ← hR1] at h hb
  have B1 : Hid (Byts R1) := hb.right
  have B2 : Hid (Byts R2) := by have h1 := B1.out; rw [hR1] at h1; exact h1.right
  have B3 : Hid (Byts R3) := by have h1 := B2.out; rw [hR2] at h1; exact h1.right
  have E1 : Hid _ := hR1
  have E2 : Hid _ := hR2
  have E3 : Hid _ := hR3
  have HL : Hid (IsR w g vr ([6] ++ R1) 0 ∧ Byts ([6] ++ R1) ∧ Nam w ∧ 1 < g) := ⟨h, hb, hn, hg⟩
  have HW : Hid (who.length ≤ 4 ∧ ∀ x ∈ who, x.scheme.size ≤ 24 ∧ x.name.size ≤ 24) := ⟨hwl, hwe⟩
  clear h hb hn hg hR1 hR2 hR3 hwe
  have hmf : ∀ (fn : Fn) (first cap : Array Value) (w : World), (Instr.makeFunc fn first cap).run Tryz.prog w = .ok (.func fn first cap) w := fun _ _ _ _ => rfl
  go_enter Tryz.func128, Tryz.ntmps128
  go_wp2_with fail
  have HR0 : Hid (IsR ((w.alloc (.cells #[.int .i8 8, .int .u16 0] 133)).alloc (.cells #[.int .i8 0, .string ⟨#[]⟩, .slice none 0 0, .slice none 0 0, .int .i32 0, .bool false, .bool false, .int .i64 0, .int .i32 0, .slice none 0 0, .slice none 0 0] 35)) g vr ([6] ++ R1) 0) := HL.out.1.kept (((Kept.refl w (fun _ => False)).alloc _).alloc _) (fun h => h) (fun _ _ h => h)
  have hgl : g < w.heap.size := lt_of_block HL.out.1.1
  refine (gI8 6 HR0.out HL.out.2.1 (by decide) (by decide)).mono ?_
  rintro _ w1 ⟨rfl, hr⟩
  obtain ⟨v1, hr1, hr2, hr3⟩ := hr
  have hvl : ∀ k, vr.ownBlock = some k → k < w.heap.size := HL.out.1.2.lt (by simp)
  have hvg : ∀ k, vr.ownBlock = some k → k ≠ g := fun k e e' => HL.out.1.apart (by simp) (e' ▸ e)
  have HG1 : Hid (GQ w (w1.alloc (.cells #[.int .i8 6, .string ⟨#[]⟩, .slice none 0 0, .slice none 0 0, .int .i32 0, .bool false, .bool false, .int .i64 0, .int .i32 0, .slice none 0 0, .slice none 0 0] 35)) 8 0 g vr v1 R1 w1.heap.size #[.int .i8 6, .string ⟨#[]⟩, .slice none 0 0, .slice none 0 0, .int .i32 0, .bool false, .bool false, .int .i64 0, .int .i32 0, .slice none 0 0, .slice none 0 0]) := by
    have hs := hr3.size
    simp at hs
    have hl1 : w1.heap[w.heap.size]? = some (.cells #[.int .i8 8, .int .u16 0] 133 (0, 0)) := hr3.heap (by rw [Below.heap_alloc _ _ _ (by simp)]; exact heap_alloc_new _ _) (by omega)
    have ho1 : w1.heap[w.heap.size + 1]? = some (.cells #[.int .i8 0, .string ⟨#[]⟩, .slice none 0 0, .slice none 0 0, .int .i32 0, .bool false, .bool false, .int .i64 0, .int .i32 0, .slice none 0 0, .slice none 0 0] 35 (0, 0)) := hr3.heap (by have := heap_alloc_new (w.alloc (.cells #[.int .i8 8, .int .u16 0] 133)) (.cells #[.int .i8 0, .string ⟨#[]⟩, .slice none 0 0, .slice none 0 0, .int .i32 0, .bool false, .bool false, .int .i64 0, .int .i32 0, .slice none 0 0, .slice none 0 0] 35 (0, 0)); simpa using this) (by omega)
    have hkw : Kept w w1 (· = g) := (((Kept.refl w (· = g)).alloc _).alloc _).trans hr3 (fun _ _ h => h)
    have hka := (Kept.refl w1 (fun _ => False)).alloc (.cells #[.int .i8 6, .string ⟨#[]⟩, .slice none 0 0, .slice none 0 0, .int .i32 0, .bool false, .bool false, .int .i64 0, .int .i32 0, .slice none 0 0, .slice none 0 0] 35)
    exact ⟨hr1.kept hka (fun h => h) (fun _ _ h => h), hr2, heap_alloc_new _ _, hka.heap hl1 (fun h => h), hka.heap ho1 (fun h => h), nam_kept (nam_kept HL.out.2.2.1 hkw (fun k hk e => by have := HL.out.2.2.2; omega)) hka (fun _ _ h => h), HL.out.2.2.2, by omega, hgl, fun k hk => ⟨hvl k hk, hvg k hk⟩, hkw.alloc _⟩
  clear hr1 hr2 hr3 HR0 hgl hvl hvg
  obtain ⟨d0, d1⟩ := HG1.out.l0'
  have c0 := HG1.out.cell 0
  simp at c0 d0 d1
  go_wp2_with fail
  refine (names_any 8 0 6 _ HG1.out.nam (by decide)).mono ?_
  rintro _ w2 ⟨rfl, b2⟩
  rw [show nms 8 0 6 = 832 by decide]
  obtain ⟨z, hz⟩ : ∃ z, z = w1.heap.size := ⟨_, rfl⟩
  rw [← hz] at HG1 ⊢
  have HG : Hid (GQ w w2 8 0 g vr v1 R1 z #[.int .i8 6, .string ⟨#[]⟩, .slice none 0 0, .slice none 0 0, .int .i32 0, .bool false, .bool false, .int .i64 0, .int .i32 0, .slice none 0 0, .slice none 0 0]) := HG1.out.later b2
  have HST : Hid (w.heap.size + 1 < z ∧ g < w.heap.size ∧ ∀ k, vr.ownBlock = some k → k < w.heap.size ∧ k ≠ g) := ⟨HG.out.zlt, HG.out.glt, HG.out.vlt⟩
  clear b2 HG1 d0 d1 c0 hz
  have HX := gI64 (v := v1) (rest := R2) ses (by have h1 := HG.out.r; rw [E1.out] at h1; exact h1) (by have h1 := B1.out; rw [E1.out] at h1; exact h1) hs0 hs1
  go_wp2_with fail
  refine HX.mono ?_
  clear HX
  rintro _ w3 ⟨rfl, hr⟩
  obtain ⟨v3, hg3, _⟩ := HG.out.read hr
  have f1 := hg3.fr 7
  have c1 := hg3.cell 7
  simp at c1
  have HG3 : Hid (GQ w (w3.setCell ⟨z, 7, none⟩ (.int .i64 ses)) 8 0 g vr v3 R2 z #[.int .i8 6, .string ⟨#[]⟩, .slice none 0 0, .slice none 0 0, .int .i32 0, .bool false, .bool false, .int .i64 ses, .int .i32 0, .slice none 0 0, .slice none 0 0]) := hg3.set 7 (.int .i64 ses)
  have HX := getListId_bk 8 0 g v3 who R3 4 (w3.setCell ⟨z, 7, none⟩ (.int .i64 ses)) (by have h1 := HG3.out.r; rw [E2.out] at h1; exact h1) (by have h1 := B2.out; rw [E2.out] at h1; exact h1) (by have := HW.out.1; omega) (by have := HW.out.1; omega) HW.out.2
  obtain ⟨y0, y1⟩ := HG3.out.l0'
  clear hr hg3 HG
  go_wp2_with fail
  clear c1 f1 y0 y1
  refine HX.mono ?_
  clear HX
  rintro _ w5 ⟨u, rfl, hrow, hr⟩
  have hsw := seesR_own hrow (fun c hc => by obtain ⟨x, _, rfl⟩ := List.mem_map.1 hc; rfl)
  obtain ⟨wa, wc', eu⟩ := seesR_shape hsw
  rw [List.length_map] at eu
  subst eu
  obtain ⟨v5, hg5, hk5⟩ := HG3.out.read hr
  have hz3 : z < w3.heap.size := by have := lt_of_block HG3.out.q; simpa using this
  have ho3 : w.heap.size + 1 < w3.heap.size := by have := lt_of_block HG3.out.o; simpa using this
  have hwb : ∀ k, (Value.slice wa who.length wc').ownBlock = some k → (w.heap.size ≤ k ∧ k ≠ z ∧ k ≠ w.heap.size + 1) ∧ k < w5.heap.size := fun k e => by
    have h1 := ownsRow_block hrow k e
    simp at h1
    have h2 := HST.out.1
    exact ⟨⟨by omega, by omega, by omega⟩, h1.2⟩
  have f1 := hg5.fr 9
  have c1 := hg5.cell 9
  simp at c1
  have hkz : Kept w5 (w5.setCell ⟨z, 9, none⟩ (.slice wa who.length wc')) (fun k => k = z) := (Kept.refl w5 (fun k => k = z)).setCell _ _ (fun _ => rfl)
  have HG5 : Hid (GQ w (w5.setCell ⟨z, 9, none⟩ (.slice wa who.length wc')) 8 0 g vr v5 R3 z #[.int .i8 6, .string ⟨#[]⟩, .slice none 0 0, .slice none 0 0, .int .i32 0, .bool false, .bool false, .int .i64 ses, .int .i32 0, .slice wa who.length wc', .slice none 0 0] ∧ SeesR (w5.setCell ⟨z, 9, none⟩ (.slice wa who.length wc')) (.slice wa who.length wc') 2 (who.map IdD.cells) ∧ ∀ k, (Value.slice wa who.length wc').ownBlock = some k → (w.heap.size ≤ k ∧ k ≠ z ∧ k ≠ w.heap.size + 1) ∧ k < (w5.setCell ⟨z, 9, none⟩ (.slice wa who.length wc')).heap.size) := ⟨hg5.set 9 (.slice wa who.length wc'), hsw.kept hkz (fun k e e' => (hwb k e).1.2.1 e'), fun k e => ⟨(hwb k e).1, by simpa using (hwb k e).2⟩⟩
  clear hrow hr hsw hg5 hk5 hwb hkz HG3 hz3 ho3
  go_wp2_with fail
  clear c1 f1
  refine (within_any _).mono ?_
  rintro _ w6 ⟨rfl, b6⟩
  have HG6 : Hid (GQ w w6 8 0 g vr v5 R3 z #[.int .i8 6, .string ⟨#[]⟩, .slice none 0 0, .slice none 0 0, .int .i32 0, .bool false, .bool false, .int .i64 ses, .int .i32 0, .slice wa who.length wc', .slice none 0 0] ∧ SeesR w6 (.slice wa who.length wc') 2 (who.map IdD.cells) ∧ ∀ k, (Value.slice wa who.length wc').ownBlock = some k → (w.heap.size ≤ k ∧ k ≠ z ∧ k ≠ w.heap.size + 1) ∧ k < w6.heap.size) := ⟨HG5.out.1.later b6, HG5.out.2.1.below b6 (Nat.le_refl _), fun k e => ⟨(HG5.out.2.2 k e).1, Nat.lt_of_lt_of_le (HG5.out.2.2 k e).2 b6.size⟩⟩
  clear b6 HG5
  have HX := getListRequest_bk g v5 n ops hok hgd rest w6 (by have h1 := HG6.out.1.r; rw [E3.out] at h1; exact h1) (by have h1 := B3.out; rw [E3.out] at h1; exact h1) hn8 HG6.out.1.nam HL.out.2.2.2
  go_wp2_with fail
  refine HX.mono ?_
  clear HX
  rintro _ w7 ⟨u, cs, rfl, hgr⟩
  have hso : SeesR w7 u 11 cs := seesR_own (base := w6.heap.size) (t := 35) (by rw [hgr.len]; exact hgr.own) hgr.z
  obtain ⟨oa, oc', eu⟩ := seesR_shape hso
  rw [hgr.len] at eu
  subst eu
  have hrd := hgr.rd
  rw [opsR_end, List.nil_append] at hrd
  obtain ⟨v7, hg7, hk7⟩ := HG6.out.1.read hrd
  have hz6 := lt_of_block HG6.out.1.q
  have ho6 := lt_of_block HG6.out.1.o
  have hb6 := HG6.out.1.kept.size
  have f1 := hg7.fr 10
  have c1 := hg7.cell 10
  simp at c1
  have hkz : Kept w7 (w7.setCell ⟨z, 10, none⟩ (.slice oa n oc')) (fun k => k = z) := (Kept.refl w7 (fun k => k = z)).setCell _ _ (fun _ => rfl)
  have HG7 : Hid (GQ w (w7.setCell ⟨z, 10, none⟩ (.slice oa n oc')) 8 0 g vr v7 rest z #[.int .i8 6, .string ⟨#[]⟩, .slice none 0 0, .slice none 0 0, .int .i32 0, .bool false, .bool false, .int .i64 ses, .int .i32 0, .slice wa who.length wc', .slice oa n oc']) := hg7.set 10 (.slice oa n oc')
  have hwk := HG6.out.2.1.kept hk7 (fun k e e' => by have h1 := (HG6.out.2.2 k e).1.1; have h2 := HST.out.2.1; omega)
  have hob : ∀ k, (Value.slice oa n oc').ownBlock = some k → w6.heap.size ≤ k ∧ k < w7.heap.size := fun k e => hgr.own.lt k e
  have HS7 : Hid (SeesR (w7.setCell ⟨z, 10, none⟩ (.slice oa n oc')) (.slice wa who.length wc') 2 (who.map IdD.cells) ∧ SeesR (w7.setCell ⟨z, 10, none⟩ (.slice oa n oc')) (.slice oa n oc') 11 cs ∧ (∀ k, (Value.slice wa who.length wc').ownBlock = some k → (w.heap.size ≤ k ∧ k ≠ w.heap.size + 1) ∧ k < w7.heap.size) ∧ (∀ k, (Value.slice oa n oc').ownBlock = some k → (w.heap.size ≤ k ∧ k ≠ w.heap.size + 1) ∧ k < w7.heap.size) ∧ cs.length = n ∧ (∀ i (hi : i < cs.length) (h : i < n), RqIn (w7.setCell ⟨z, 10, none⟩ (.slice oa n oc')) (fun k => vr.ownBlock = some k ∨ ((w.heap.size ≤ k ∧ k ≠ w.heap.size + 1) ∧ k < w7.heap.size)) cs[i] (ops ⟨i, h⟩))) := by
    refine ⟨hwk.kept hkz (fun k e e' => (HG6.out.2.2 k e).1.2.1 e'), hso.kept hkz (fun k e e' => by have := (hob k e).1; omega), fun k e => ⟨⟨(HG6.out.2.2 k e).1.1, (HG6.out.2.2 k e).1.2.2⟩, Nat.lt_of_lt_of_le (HG6.out.2.2 k e).2 hk7.size⟩, fun k e => ⟨⟨by have := (hob k e).1; omega, by have := (hob k e).1; omega⟩, (hob k e).2⟩, hgr.len, fun i hi h => RqIn.kept hkz (fun k hq => ?_) (hgr.rq i hi h)⟩
    obtain ⟨hq1, hq2⟩ := hq
    rcases hq1 with e | ⟨e1, e2⟩
    · have h1 := HG6.out.1.sub k e
      exact ⟨by have := (HST.out.2.2 k h1).1; have := HST.out.1; omega, .inl h1⟩
    · exact ⟨by omega, .inr ⟨⟨by omega, by omega⟩, e2⟩⟩
  clear hso hrd hg7 hk7 hz6 ho6 hb6 hkz hwk hob hgr HG6
  have hld1 := HG7.out.q
  have hst1 := HG7.out.o
  have hrow := setRow_heap (w7.setCell ⟨z, 10, none⟩ (.slice oa n oc')) (w.heap.size + 1) _ #[.int .i8 6, .string ⟨#[]⟩, .slice none 0 0, .slice none 0 0, .int .i32 0, .bool false, .bool false, .int .i64 ses, .int .i32 0, .slice wa who.length wc', .slice oa n oc'] _ _ hst1
  have hk : Kept (w7.setCell ⟨z, 10, none⟩ (.slice oa n oc')) ((w7.setCell ⟨z, 10, none⟩ (.slice oa n oc')).setRow (w.heap.size + 1) #[.int .i8 6, .string ⟨#[]⟩, .slice none 0 0, .slice none 0 0, .int .i32 0, .bool false, .bool false, .int .i64 ses, .int .i32 0, .slice wa who.length wc', .slice oa n oc']) (fun k => k = w.heap.size + 1) := ⟨rfl, rfl, rfl, by simp, fun k _ hn => setRow_other _ _ _ _ hn⟩
  have HF : Hid _ := And.intro hrow hk
  clear hrow hk
  go_wp2_with (first | (refine wpList_load_row rfl 35 _ rfl z rfl 35 _ (0, 0) _ hld1 Tryz.underlying35 rfl rq_size ?_) | (refine wpList_store_row rfl 35 _ _ rfl (w.heap.size + 1) #[.int .i8 6, .string ⟨#[]⟩, .slice none 0 0, .slice none 0 0, .int .i32 0, .bool false, .bool false, .int .i64 ses, .int .i32 0, .slice wa who.length wc', .slice oa n oc'] rfl rfl 35 _ hst1 rq_size rfl (by simp [Value.oneCell']) ?_))
  obtain ⟨hrow, hk⟩ := HF.out
  have hg := HST.out.2.1
  have hr' := HG7.out.r.kept hk (by omega) (fun k hk' => by have := (HST.out.2.2 k (HG7.out.sub k hk')).1; omega)
  have hk' := HG7.out.kept.trans hk (fun k hk e => by omega)
  have hzz : ((w7.setCell ⟨z, 10, none⟩ (.slice oa n oc')).setRow (w.heap.size + 1) #[.int .i8 6, .string ⟨#[]⟩, .slice none 0 0, .slice none 0 0, .int .i32 0, .bool false, .bool false, .int .i64 ses, .int .i32 0, .slice wa who.length wc', .slice oa n oc']).heap.size = w7.heap.size := by simp
  refine bodyPost_ret (v := .agg #[.int .i8 6, .string ⟨#[]⟩, .slice none 0 0, .slice none 0 0, .int .i32 0, .bool false, .bool false, .int .i64 ses, .int .i32 0, .slice wa who.length wc', .slice oa n oc']) ?_ rfl ⟨wa, wc', oa, oc', cs, rfl, HS7.out.1.kept hk (fun k e e' => (HS7.out.2.2.1 k e).1.2 e'), fun k e => ⟨(HS7.out.2.2.1 k e).1.1, by rw [hzz]; exact (HS7.out.2.2.1 k e).2⟩, HS7.out.2.2.2.2.1, HS7.out.2.1.kept hk (fun k e e' => (HS7.out.2.2.2.1 k e).1.2 e'), fun k e => ⟨(HS7.out.2.2.2.1 k e).1.1, by rw [hzz]; exact (HS7.out.2.2.2.1 k e).2⟩, fun i hi h => RqIn.kept hk (fun k hq => ?_) (HS7.out.2.2.2.2.2 i hi h), ⟨v7, hr', HG7.out.sub, hk'⟩⟩
  · exact results_cell_row Tryz.results128 _ _ (w.heap.size + 1) 35 _ (0, 0) _ rfl hrow Tryz.underlying35 rfl rq_size
  · rcases hq with e | ⟨⟨e1, e2⟩, e3⟩
    · exact ⟨by have := (HST.out.2.2 k e).1; omega, .inl e⟩
    · exact ⟨e2, .inr ⟨e1, by rw [hzz]; exact e3⟩⟩
end Go.Proofs.YtochbjafdcbckaaGreatDoor

/- get of package txn at bytes that were laid: every transaction's request. -/
namespace Go.Proofs.YtochbjafdcbckaaGreatDoor
open Go.RowKit
set_option maxRecDepth 8000

theorem get_out6 (f : RqF) (n : Nat) (ops : Fin n → Rq) (hk : f.kind = 6) (hfl : flatOk 8 0 f n = true) (hbd : bdOk f = true) (hgf : f.good) (hok : ∀ i, (ops i).inOk = true) (hgd : ∀ i, (ops i).good) (hn8 : n ≤ 8) (g : Nat) (v : Value) (rest : List Int) (w : World) (h : IsR w g v (encP false false false false false true false true f (be4 n ++ opsB ops n) ++ rest) 0) (hb : Byts (encP false false false false false true false true f (be4 n ++ opsB ops n) ++ rest)) (hn : Nam w) (hg : 1 < g) :
    GetsRq 8 0 g v (.mk f n ops) rest w := by
  have hN : nms 8 0 f.kind = 832 := by rw [hk]; decide
  simp only [flatOk, Bool.and_eq_true] at hfl
  rw [hN] at hfl
  have hz := hfl.1.2
  unfold fz at hz
  rw [gz_832] at hz
  simp only [Bool.and_eq_true, Bool.not_eq_true'] at hz
  obtain ⟨⟨⟨⟨⟨⟨q0, q1⟩, q2⟩, q3⟩, q4⟩, q5⟩, q7⟩ := hz
  have hbi := bdOk_inv hbd
  obtain ⟨kind, path, data, acl, ver, eph, seq, ses, tmo, who⟩ := f
  simp only at hk q0 q1 q2 q3 q4 q5 q7 hbi h hb
  have e0 := text_nil q0
  have e1 : data = [] := List.eq_nil_of_length_eq_zero (by simpa using q1)
  have e2 : acl = [] := List.eq_nil_of_length_eq_zero (by simpa using q2)
  have e3 : ver = 0 := by simpa using q3
  have e7 : tmo = 0 := by simpa using q7
  subst hk e0 e1 e2 e3 q4 q5 e7
  have eb : encP false false false false false true false true ⟨6, ⟨#[]⟩, [], [], 0, false, false, ses, 0, who⟩ (be4 n ++ opsB ops n) ++ rest = [6] ++ (be8 (up64 ses) ++ ((be4 who.length ++ idsB who) ++ ((be4 n ++ opsB ops n) ++ rest))) := by simp [encP]
  rw [eb] at h hb
  refine (get_multi ses who n ops g v rest w hok hgd hn8 h hb hn hg hgf.s0 hgf.s1 hbi.2.2.2.2.2.2.2.1 hbi.2.2.2.2.2.2.2.2).mono ?_
  rintro e w' ⟨wa, wc', oa, oc', cs, rfl, h1, h2, h3, h4, h5, h6, h7⟩
  have hcs : cs = List.ofFn fun i : Fin n => cs[i.1]'(by omega) := by
    apply List.ext_getElem
    · simp [h3]
    · intro i h1 h2; simp
  rw [hcs] at h4
  exact ⟨[.int .i8 6, .string ⟨#[]⟩, .slice none 0 0, .slice none 0 0, .int .i32 0, .bool false, .bool false, .int .i64 ses, .int .i32 0, .slice wa who.length wc', .slice oa n oc'], rfl, rfl, .mk ⟨6, ⟨#[]⟩, [], [], 0, false, false, ses, 0, who⟩ n ops (.slice none 0 0) (.slice none 0 0) (.slice wa who.length wc') (.slice oa n oc') (fun i : Fin n => cs[i.1]'(by omega)) (sees_nil _) (SeesR.nil _ _) h1 h4 (fun k e => by simp [Value.ownBlock] at e) (fun k e => by simp [Value.ownBlock] at e) (fun k e => .inr (h2 k e)) (fun k e => .inr (h5 k e)) (fun i => h6 i.1 (by omega) i.2), h7⟩

theorem getOut_bk (r : Rq) (hok : mayP 8 0 r = true) (hg : r.good) (g : Nat) (v : Value) (rest : List Int) (w : World) (h : IsR w g v (encOut r ++ rest) 0) (hb : Byts (encOut r ++ rest)) (hn : Nam w) (hg0 : 1 < g) : GetsRq 8 0 g v r rest w := by
  cases r with
  | mk f n ops =>
    obtain ⟨h1, h8, hbd, hn8, hin⟩ := mayP_inv hok
    have hfl : flatOk 8 0 f n = true := by
      simp only [mayP, Bool.and_eq_true] at hok
      exact hok.1
    rw [encOut_mk] at h hb
    by_cases k1 : f.kind = 1
    · rw [if_pos k1, encP_more] at h hb; exact get_out1 f n ops k1 hfl hbd hg.1 g v rest w h hb hn hg0
    rw [if_neg k1] at h hb
    by_cases k3 : f.kind = 3
    · rw [if_pos k3, encP_more] at h hb; exact get_out3 f n ops k3 hfl hbd hg.1 g v rest w h hb hn hg0
    rw [if_neg k3] at h hb
    by_cases k4 : f.kind = 4
    · rw [if_pos k4, encP_more] at h hb; exact get_out4 f n ops k4 hfl hbd hg.1 g v rest w h hb hn hg0
    rw [if_neg k4] at h hb
    by_cases k6 : f.kind = 6
    · rw [if_pos k6] at h hb; exact get_out6 f n ops k6 hfl hbd hg.1 hin hg.2.2 hn8 g v rest w h hb hn hg0
    rw [if_neg k6] at h hb
    by_cases k7 : f.kind = 7
    · rw [if_pos k7, encP_more] at h hb; exact get_out7 f n ops k7 hfl hbd hg.1 g v rest w h hb hn hg0
    rw [if_neg k7] at h hb
    by_cases k8 : f.kind = 8
    · rw [if_pos k8, encP_more] at h hb; exact get_out8 f n ops k8 hfl hbd hg.1 g v rest w h hb hn hg0
    rw [if_neg k8, encP_more] at h hb
    by_cases k2 : f.kind = 2
    · exact get_out2 f n ops k2 hfl hbd hg.1 g v rest w h hb hn hg0
    · exact get_out5 f n ops (by omega) hfl hbd hg.1 g v rest w h hb hn hg0
end Go.Proofs.YtochbjafdcbckaaGreatDoor
