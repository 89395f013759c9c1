/- get of package txn at bytes that were laid: a Multi; every transaction's request. -/
import Derived.Test.YtldcbabgommghaaGreatDoorWfHJ
import Derived.Test.YtldcbabgommghaaGreatDoorPkKJ
import Derived.Test.YtldcbabgommghaaGreatDoorWkReadJ
import Derived.Test.YtldcbabgommghaaGreatDoorPkAJ
import Derived.Test.YtldcbabgommghaaGreatDoorCopyXJ
import Derived.Deep.MidRow
import Derived.Deep.CutRange
namespace Go.Proofs.YtldcbabgommghaaGreatDoor
open Go.RowKit
set_option maxRecDepth 8000

theorem gz_832 : ∀ b0 b1 b2 b3 b4 b5 b6 b7 b8 b9 : Bool, (bits .andNot .u16 (fillz b0 b1 b2 b3 b4 b5 b6 b7 b8 b9) 832 == 0) = (!b0 && !b1 && !b2 && !b3 && !b4 && !b5 && !b7) := by decide +kernel

set_option maxHeartbeats 4000000 in
theorem get_multi (ses : Int) (who : List IdD) (n : Nat) (ops : Fin n → Rq) (g : Nat) (vr : Value) (rest : List Int) (w : World) (hok : ∀ i, (ops i).inOk = true) (hgd : ∀ i, (ops i).good) (hn8 : n ≤ 8)
    (h : IsR w g vr ([6] ++ (be8 (up64 ses) ++ ((be4 who.length ++ idsB who) ++ ((be4 n ++ opsB ops n) ++ rest)))) 0) (hb : Byts ([6] ++ (be8 (up64 ses) ++ ((be4 who.length ++ idsB who) ++ ((be4 n ++ opsB ops n) ++ rest))))) (hn : Nam w) (hg : 1 < g)
    (hs0 : -9223372036854775808 ≤ ses) (hs1 : ses ≤ 9223372036854775807) (hwl : who.length ≤ 4) (hwe : ∀ x ∈ who, x.scheme.size ≤ 24 ∧ x.name.size ≤ 24) :
    Calls Tryz.prog 140 #[lay 8 0, .pointer (some ⟨g, 0, none⟩)] w fun r w' => ∃ wa wc' oa oc' cs, r = .returned (.agg #[.int .i8 6, .string ⟨#[]⟩, .slice none 0 0, .slice none 0 0, .int .i32 0, .bool false, .bool false, .int .i64 ses, .int .i32 0, .slice wa who.length wc', .slice oa n oc']) ∧ SeesR w' (.slice wa who.length wc') 2 (who.map IdD.cells) ∧ (∀ k, (Value.slice wa who.length wc').ownBlock = some k → w.heap.size ≤ k ∧ k < w'.heap.size) ∧ cs.length = n ∧ SeesR w' (.slice oa n oc') 11 cs ∧ (∀ k, (Value.slice oa n oc').ownBlock = some k → w.heap.size ≤ k ∧ k < w'.heap.size) ∧ (∀ i (hi : i < cs.length) (h : i < n), RqIn w' (fun k => vr.ownBlock = some k ∨ (w.heap.size ≤ k ∧ k < w'.heap.size)) cs[i] (ops ⟨i, h⟩)) ∧ ReadsTo w g vr ⟨0, rest, 0⟩ w' := by
  have m0 : (bits .and .u16 832 1 != 0) = false := by decide
  have m1 : (bits .and .u16 832 2 != 0) = false := by decide
  have m2 : (bits .and .u16 832 4 != 0) = false := by decide
  have m3 : (bits .and .u16 832 8 != 0) = false := by decide
  have m4 : (bits .and .u16 832 16 != 0) = false := by decide
  have m5 : (bits .and .u16 832 32 != 0) = false := by decide
  have m6 : (bits .and .u16 832 64 != 0) = true := by decide
  have m7 : (bits .and .u16 832 128 != 0) = false := by decide
  have m8 : (bits .and .u16 832 256 != 0) = true := by decide
  have m9 : (bits .and .u16 832 512 != 0) = true := by decide
  obtain ⟨R3, hR3⟩ : ∃ R3, R3 = (be4 (n : Int) ++ opsB ops n) ++ rest := ⟨_, rfl⟩
  obtain ⟨R2, hR2⟩ : ∃ R2, R2 = (be4 (who.length : Int) ++ idsB who) ++ R3 := ⟨_, rfl⟩
  obtain ⟨R1, hR1⟩ : ∃ R1, R1 = be8 (up64 ses) ++ R2 := ⟨_, rfl⟩
  rw [← hR3, ← hR2, ← hR1] at h hb
  have B1 : Hid (Byts R1) := hb.right
  have B2 : Hid (Byts R2) := by have h1 := B1.out; rw [hR1] at h1; exact h1.right
  have B3 : Hid (Byts R3) := by have h1 := B2.out; rw [hR2] at h1; exact h1.right
  have E1 : Hid _ := hR1
  have E2 : Hid _ := hR2
  have E3 : Hid _ := hR3
  have HL : Hid (IsR w g vr ([6] ++ R1) 0 ∧ Byts ([6] ++ R1) ∧ Nam w ∧ 1 < g) := ⟨h, hb, hn, hg⟩
  have HW : Hid (who.length ≤ 4 ∧ ∀ x ∈ who, x.scheme.size ≤ 24 ∧ x.name.size ≤ 24) := ⟨hwl, hwe⟩
  clear h hb hn hg hR1 hR2 hR3 hwe
  have hmf : ∀ (fn : Fn) (first cap : Array Value) (w : World), (Instr.makeFunc fn first cap).run Tryz.prog w = .ok (.func fn first cap) w := fun _ _ _ _ => rfl
  go_enter Tryz.func140, Tryz.ntmps140
  go_wp2_with fail
  have HR0 : Hid (IsR ((w.alloc (.cells #[.int .i8 8, .int .u16 0] 153)).alloc (.cells #[.int .i8 0, .string ⟨#[]⟩, .slice none 0 0, .slice none 0 0, .int .i32 0, .bool false, .bool false, .int .i64 0, .int .i32 0, .slice none 0 0, .slice none 0 0] 35)) g vr ([6] ++ R1) 0) := HL.out.1.kept (((Kept.refl w (fun _ => False)).alloc _).alloc _) (fun h => h) (fun _ _ h => h)
  have hgl : g < w.heap.size := lt_of_block HL.out.1.1
  refine (gI8 6 HR0.out HL.out.2.1 (by decide) (by decide)).mono ?_
  rintro _ w1 ⟨rfl, hr⟩
  obtain ⟨v1, hr1, hr2, hr3⟩ := hr
  have hvl : ∀ k, vr.ownBlock = some k → k < w.heap.size := HL.out.1.2.lt (by simp)
  have hvg : ∀ k, vr.ownBlock = some k → k ≠ g := fun k e e' => HL.out.1.apart (by simp) (e' ▸ e)
  have HG1 : Hid (GQ w (w1.alloc (.cells #[.int .i8 6, .string ⟨#[]⟩, .slice none 0 0, .slice none 0 0, .int .i32 0, .bool false, .bool false, .int .i64 0, .int .i32 0, .slice none 0 0, .slice none 0 0] 35)) 8 0 g vr v1 R1 w1.heap.size #[.int .i8 6, .string ⟨#[]⟩, .slice none 0 0, .slice none 0 0, .int .i32 0, .bool false, .bool false, .int .i64 0, .int .i32 0, .slice none 0 0, .slice none 0 0]) := by
    have hs := hr3.size
    simp at hs
    have hl1 : w1.heap[w.heap.size]? = some (.cells #[.int .i8 8, .int .u16 0] 153 (0, 0)) := hr3.heap (by rw [Below.heap_alloc _ _ _ (by simp)]; exact heap_alloc_new _ _) (by omega)
    have ho1 : w1.heap[w.heap.size + 1]? = some (.cells #[.int .i8 0, .string ⟨#[]⟩, .slice none 0 0, .slice none 0 0, .int .i32 0, .bool false, .bool false, .int .i64 0, .int .i32 0, .slice none 0 0, .slice none 0 0] 35 (0, 0)) := hr3.heap (by have := heap_alloc_new (w.alloc (.cells #[.int .i8 8, .int .u16 0] 153)) (.cells #[.int .i8 0, .string ⟨#[]⟩, .slice none 0 0, .slice none 0 0, .int .i32 0, .bool false, .bool false, .int .i64 0, .int .i32 0, .slice none 0 0, .slice none 0 0] 35 (0, 0)); simpa using this) (by omega)
    have hkw : Kept w w1 (· = g) := (((Kept.refl w (· = g)).alloc _).alloc _).trans hr3 (fun _ _ h => h)
    have hka := (Kept.refl w1 (fun _ => False)).alloc (.cells #[.int .i8 6, .string ⟨#[]⟩, .slice none 0 0, .slice none 0 0, .int .i32 0, .bool false, .bool false, .int .i64 0, .int .i32 0, .slice none 0 0, .slice none 0 0] 35)
    exact ⟨hr1.kept hka (fun h => h) (fun _ _ h => h), hr2, heap_alloc_new _ _, hka.heap hl1 (fun h => h), hka.heap ho1 (fun h => h), nam_kept (nam_kept HL.out.2.2.1 hkw (fun k hk e => by have := HL.out.2.2.2; omega)) hka (fun _ _ h => h), HL.out.2.2.2, by omega, hgl, fun k hk => ⟨hvl k hk, hvg k hk⟩, hkw.alloc _⟩
  clear hr1 hr2 hr3 HR0 hgl hvl hvg
  obtain ⟨d0, d1⟩ := HG1.out.l0'
  have c0 := HG1.out.cell 0
  simp at c0 d0 d1
  go_wp2_with fail
  refine (names_any 8 0 6 _ HG1.out.nam (by decide)).mono ?_
  rintro _ w2 ⟨rfl, b2⟩
  rw [show nms 8 0 6 = 832 by decide]
  obtain ⟨z, hz⟩ : ∃ z, z = w1.heap.size := ⟨_, rfl⟩
  rw [← hz] at HG1 ⊢
  have HG : Hid (GQ w w2 8 0 g vr v1 R1 z #[.int .i8 6, .string ⟨#[]⟩, .slice none 0 0, .slice none 0 0, .int .i32 0, .bool false, .bool false, .int .i64 0, .int .i32 0, .slice none 0 0, .slice none 0 0]) := HG1.out.later b2
  have HST : Hid (w.heap.size + 1 < z ∧ g < w.heap.size ∧ ∀ k, vr.ownBlock = some k → k < w.heap.size ∧ k ≠ g) := ⟨HG.out.zlt, HG.out.glt, HG.out.vlt⟩
  clear b2 HG1 d0 d1 c0 hz
  have HX := gI64 (v := v1) (rest := R2) ses (by have h1 := HG.out.r; rw [E1.out] at h1; exact h1) (by have h1 := B1.out; rw [E1.out] at h1; exact h1) hs0 hs1
  go_wp2_with fail
  refine HX.mono ?_
  clear HX
  rintro _ w3 ⟨rfl, hr⟩
  obtain ⟨v3, hg3, _⟩ := HG.out.read hr
  have f1 := hg3.fr 7
  have c1 := hg3.cell 7
  simp at c1
  have HG3 : Hid (GQ w (w3.setCell ⟨z, 7, none⟩ (.int .i64 ses)) 8 0 g vr v3 R2 z #[.int .i8 6, .string ⟨#[]⟩, .slice none 0 0, .slice none 0 0, .int .i32 0, .bool false, .bool false, .int .i64 ses, .int .i32 0, .slice none 0 0, .slice none 0 0]) := hg3.set 7 (.int .i64 ses)
  have HX := getListId_bk 8 0 g v3 who R3 4 (w3.setCell ⟨z, 7, none⟩ (.int .i64 ses)) (by have h1 := HG3.out.r; rw [E2.out] at h1; exact h1) (by have h1 := B2.out; rw [E2.out] at h1; exact h1) (by have := HW.out.1; omega) (by have := HW.out.1; omega) HW.out.2
  obtain ⟨y0, y1⟩ := HG3.out.l0'
  clear hr hg3 HG
  go_wp2_with fail
  clear c1 f1 y0 y1
  refine HX.mono ?_
  clear HX
  rintro _ w5 ⟨u, rfl, hrow, hr⟩
  have hsw := seesR_own hrow (fun c hc => by obtain ⟨x, _, rfl⟩ := List.mem_map.1 hc; rfl)
  obtain ⟨wa, wc', eu⟩ := seesR_shape hsw
  rw [List.length_map] at eu
  subst eu
  obtain ⟨v5, hg5, hk5⟩ := HG3.out.read hr
  have hz3 : z < w3.heap.size := by have := lt_of_block HG3.out.q; simpa using this
  have ho3 : w.heap.size + 1 < w3.heap.size := by have := lt_of_block HG3.out.o; simpa using this
  have hwb : ∀ k, (Value.slice wa who.length wc').ownBlock = some k → (w.heap.size ≤ k ∧ k ≠ z ∧ k ≠ w.heap.size + 1) ∧ k < w5.heap.size := fun k e => by
    have h1 := ownsRow_block hrow k e
    simp at h1
    have h2 := HST.out.1
    exact ⟨⟨by omega, by omega, by omega⟩, h1.2⟩
  have f1 := hg5.fr 9
  have c1 := hg5.cell 9
  simp at c1
  have hkz : Kept w5 (w5.setCell ⟨z, 9, none⟩ (.slice wa who.length wc')) (fun k => k = z) := (Kept.refl w5 (fun k => k = z)).setCell _ _ (fun _ => rfl)
  have HG5 : Hid (GQ w (w5.setCell ⟨z, 9, none⟩ (.slice wa who.length wc')) 8 0 g vr v5 R3 z #[.int .i8 6, .string ⟨#[]⟩, .slice none 0 0, .slice none 0 0, .int .i32 0, .bool false, .bool false, .int .i64 ses, .int .i32 0, .slice wa who.length wc', .slice none 0 0] ∧ SeesR (w5.setCell ⟨z, 9, none⟩ (.slice wa who.length wc')) (.slice wa who.length wc') 2 (who.map IdD.cells) ∧ ∀ k, (Value.slice wa who.length wc').ownBlock = some k → (w.heap.size ≤ k ∧ k ≠ z ∧ k ≠ w.heap.size + 1) ∧ k < (w5.setCell ⟨z, 9, none⟩ (.slice wa who.length wc')).heap.size) := ⟨hg5.set 9 (.slice wa who.length wc'), hsw.kept hkz (fun k e e' => (hwb k e).1.2.1 e'), fun k e => ⟨(hwb k e).1, by simpa using (hwb k e).2⟩⟩
  clear hrow hr hsw hg5 hk5 hwb hkz HG3 hz3 ho3
  go_wp2_with fail
  clear c1 f1
  refine (within_any _).mono ?_
  rintro _ w6 ⟨rfl, b6⟩
  have HG6 : Hid (GQ w w6 8 0 g vr v5 R3 z #[.int .i8 6, .string ⟨#[]⟩, .slice none 0 0, .slice none 0 0, .int .i32 0, .bool false, .bool false, .int .i64 ses, .int .i32 0, .slice wa who.length wc', .slice none 0 0] ∧ SeesR w6 (.slice wa who.length wc') 2 (who.map IdD.cells) ∧ ∀ k, (Value.slice wa who.length wc').ownBlock = some k → (w.heap.size ≤ k ∧ k ≠ z ∧ k ≠ w.heap.size + 1) ∧ k < w6.heap.size) := ⟨HG5.out.1.later b6, HG5.out.2.1.below b6 (Nat.le_refl _), fun k e => ⟨(HG5.out.2.2 k e).1, Nat.lt_of_lt_of_le (HG5.out.2.2 k e).2 b6.size⟩⟩
  clear b6 HG5
  have HX := getListRequest_bk g v5 n ops hok hgd rest w6 (by have h1 := HG6.out.1.r; rw [E3.out] at h1; exact h1) (by have h1 := B3.out; rw [E3.out] at h1; exact h1) hn8 HG6.out.1.nam HL.out.2.2.2
  go_wp2_with fail
  refine HX.mono ?_
  clear HX
  rintro _ w7 ⟨u, cs, rfl, hgr⟩
  have hso : SeesR w7 u 11 cs := seesR_own (base := w6.heap.size) (t := 35) (by rw [hgr.len]; exact hgr.own) hgr.z
  obtain ⟨oa, oc', eu⟩ := seesR_shape hso
  rw [hgr.len] at eu
  subst eu
  have hrd := hgr.rd
  rw [opsR_end, List.nil_append] at hrd
  obtain ⟨v7, hg7, hk7⟩ := HG6.out.1.read hrd
  have hz6 := lt_of_block HG6.out.1.q
  have ho6 := lt_of_block HG6.out.1.o
  have hb6 := HG6.out.1.kept.size
  have f1 := hg7.fr 10
  have c1 := hg7.cell 10
  simp at c1
  have hkz : Kept w7 (w7.setCell ⟨z, 10, none⟩ (.slice oa n oc')) (fun k => k = z) := (Kept.refl w7 (fun k => k = z)).setCell _ _ (fun _ => rfl)
  have HG7 : Hid (GQ w (w7.setCell ⟨z, 10, none⟩ (.slice oa n oc')) 8 0 g vr v7 rest z #[.int .i8 6, .string ⟨#[]⟩, .slice none 0 0, .slice none 0 0, .int .i32 0, .bool false, .bool false, .int .i64 ses, .int .i32 0, .slice wa who.length wc', .slice oa n oc']) := hg7.set 10 (.slice oa n oc')
  have hwk := HG6.out.2.1.kept hk7 (fun k e e' => by have h1 := (HG6.out.2.2 k e).1.1; have h2 := HST.out.2.1; omega)
  have hob : ∀ k, (Value.slice oa n oc').ownBlock = some k → w6.heap.size ≤ k ∧ k < w7.heap.size := fun k e => hgr.own.lt k e
  have HS7 : Hid (SeesR (w7.setCell ⟨z, 10, none⟩ (.slice oa n oc')) (.slice wa who.length wc') 2 (who.map IdD.cells) ∧ SeesR (w7.setCell ⟨z, 10, none⟩ (.slice oa n oc')) (.slice oa n oc') 11 cs ∧ (∀ k, (Value.slice wa who.length wc').ownBlock = some k → (w.heap.size ≤ k ∧ k ≠ w.heap.size + 1) ∧ k < w7.heap.size) ∧ (∀ k, (Value.slice oa n oc').ownBlock = some k → (w.heap.size ≤ k ∧ k ≠ w.heap.size + 1) ∧ k < w7.heap.size) ∧ cs.length = n ∧ (∀ i (hi : i < cs.length) (h : i < n), RqIn (w7.setCell ⟨z, 10, none⟩ (.slice oa n oc')) (fun k => vr.ownBlock = some k ∨ ((w.heap.size ≤ k ∧ k ≠ w.heap.size + 1) ∧ k < w7.heap.size)) cs[i] (ops ⟨i, h⟩))) := by
    refine ⟨hwk.kept hkz (fun k e e' => (HG6.out.2.2 k e).1.2.1 e'), hso.kept hkz (fun k e e' => by have := (hob k e).1; omega), fun k e => ⟨⟨(HG6.out.2.2 k e).1.1, (HG6.out.2.2 k e).1.2.2⟩, Nat.lt_of_lt_of_le (HG6.out.2.2 k e).2 hk7.size⟩, fun k e => ⟨⟨by have := (hob k e).1; omega, by have := (hob k e).1; omega⟩, (hob k e).2⟩, hgr.len, fun i hi h => RqIn.kept hkz (fun k hq => ?_) (hgr.rq i hi h)⟩
    obtain ⟨hq1, hq2⟩ := hq
    rcases hq1 with e | ⟨e1, e2⟩
    · have h1 := HG6.out.1.sub k e
      exact ⟨by have := (HST.out.2.2 k h1).1; have := HST.out.1; omega, .inl h1⟩
    · exact ⟨by omega, .inr ⟨⟨by omega, by omega⟩, e2⟩⟩
  clear hso hrd hg7 hk7 hz6 ho6 hb6 hkz hwk hob hgr HG6
  have hld1 := HG7.out.q
  have hst1 := HG7.out.o
  have hrow := setRow_heap (w7.setCell ⟨z, 10, none⟩ (.slice oa n oc')) (w.heap.size + 1) _ #[.int .i8 6, .string ⟨#[]⟩, .slice none 0 0, .slice none 0 0, .int .i32 0, .bool false, .bool false, .int .i64 ses, .int .i32 0, .slice wa who.length wc', .slice oa n oc'] _ _ hst1
  have hk : Kept (w7.setCell ⟨z, 10, none⟩ (.slice oa n oc')) ((w7.setCell ⟨z, 10, none⟩ (.slice oa n oc')).setRow (w.heap.size + 1) #[.int .i8 6, .string ⟨#[]⟩, .slice none 0 0, .slice none 0 0, .int .i32 0, .bool false, .bool false, .int .i64 ses, .int .i32 0, .slice wa who.length wc', .slice oa n oc']) (fun k => k = w.heap.size + 1) := ⟨rfl, rfl, rfl, by simp, fun k _ hn => setRow_other _ _ _ _ hn⟩
  have HF : Hid _ := And.intro hrow hk
  clear hrow hk
  go_wp2_with (first | (refine wpList_load_row rfl 35 _ rfl z rfl 35 _ (0, 0) _ hld1 Tryz.underlying35 rfl rq_size ?_) | (refine wpList_store_row rfl 35 _ _ rfl (w.heap.size + 1) #[.int .i8 6, .string ⟨#[]⟩, .slice none 0 0, .slice none 0 0, .int .i32 0, .bool false, .bool false, .int .i64 ses, .int .i32 0, .slice wa who.length wc', .slice oa n oc'] rfl rfl 35 _ hst1 rq_size rfl (by simp [Value.oneCell']) ?_))
  obtain ⟨hrow, hk⟩ := HF.out
  have hg := HST.out.2.1
  have hr' := HG7.out.r.kept hk (by omega) (fun k hk' => by have := (HST.out.2.2 k (HG7.out.sub k hk')).1; omega)
  have hk' := HG7.out.kept.trans hk (fun k hk e => by omega)
  have hzz : ((w7.setCell ⟨z, 10, none⟩ (.slice oa n oc')).setRow (w.heap.size + 1) #[.int .i8 6, .string ⟨#[]⟩, .slice none 0 0, .slice none 0 0, .int .i32 0, .bool false, .bool false, .int .i64 ses, .int .i32 0, .slice wa who.length wc', .slice oa n oc']).heap.size = w7.heap.size := by simp
  refine bodyPost_ret (v := .agg #[.int .i8 6, .string ⟨#[]⟩, .slice none 0 0, .slice none 0 0, .int .i32 0, .bool false, .bool false, .int .i64 ses, .int .i32 0, .slice wa who.length wc', .slice oa n oc']) ?_ rfl ⟨wa, wc', oa, oc', cs, rfl, HS7.out.1.kept hk (fun k e e' => (HS7.out.2.2.1 k e).1.2 e'), fun k e => ⟨(HS7.out.2.2.1 k e).1.1, by rw [hzz]; exact (HS7.out.2.2.1 k e).2⟩, HS7.out.2.2.2.2.1, HS7.out.2.1.kept hk (fun k e e' => (HS7.out.2.2.2.1 k e).1.2 e'), fun k e => ⟨(HS7.out.2.2.2.1 k e).1.1, by rw [hzz]; exact (HS7.out.2.2.2.1 k e).2⟩, fun i hi h => RqIn.kept hk (fun k hq => ?_) (HS7.out.2.2.2.2.2 i hi h), ⟨v7, hr', HG7.out.sub, hk'⟩⟩
  · exact results_cell_row Tryz.results140 _ _ (w.heap.size + 1) 35 _ (0, 0) _ rfl hrow Tryz.underlying35 rfl rq_size
  · rcases hq with e | ⟨⟨e1, e2⟩, e3⟩
    · exact ⟨by have := (HST.out.2.2 k e).1; omega, .inl e⟩
    · exact ⟨e2, .inr ⟨e1, by rw [hzz]; exact e3⟩⟩
end Go.Proofs.YtldcbabgommghaaGreatDoor

/- get of package txn at bytes that were laid: every transaction's request. -/
namespace Go.Proofs.YtldcbabgommghaaGreatDoor
open Go.RowKit
set_option maxRecDepth 8000

theorem get_out6 (f : RqF) (n : Nat) (ops : Fin n → Rq) (hk : f.kind = 6) (hfl : flatOk 8 0 f n = true) (hbd : bdOk f = true) (hgf : f.good) (hok : ∀ i, (ops i).inOk = true) (hgd : ∀ i, (ops i).good) (hn8 : n ≤ 8) (g : Nat) (v : Value) (rest : List Int) (w : World) (h : IsR w g v (encP false false false false false true false true f (be4 n ++ opsB ops n) ++ rest) 0) (hb : Byts (encP false false false false false true false true f (be4 n ++ opsB ops n) ++ rest)) (hn : Nam w) (hg : 1 < g) :
    GetsRq 8 0 g v (.mk f n ops) rest w := by
  have hN : nms 8 0 f.kind = 832 := by rw [hk]; decide
  simp only [flatOk, Bool.and_eq_true] at hfl
  rw [hN] at hfl
  have hz := hfl.1.2
  unfold fz at hz
  rw [gz_832] at hz
  simp only [Bool.and_eq_true, Bool.not_eq_true'] at hz
  obtain ⟨⟨⟨⟨⟨⟨q0, q1⟩, q2⟩, q3⟩, q4⟩, q5⟩, q7⟩ := hz
  have hbi := bdOk_inv hbd
  obtain ⟨kind, path, data, acl, ver, eph, seq, ses, tmo, who⟩ := f
  simp only at hk q0 q1 q2 q3 q4 q5 q7 hbi h hb
  have e0 := text_nil q0
  have e1 : data = [] := List.eq_nil_of_length_eq_zero (by simpa using q1)
  have e2 : acl = [] := List.eq_nil_of_length_eq_zero (by simpa using q2)
  have e3 : ver = 0 := by simpa using q3
  have e7 : tmo = 0 := by simpa using q7
  subst hk e0 e1 e2 e3 q4 q5 e7
  have eb : encP false false false false false true false true ⟨6, ⟨#[]⟩, [], [], 0, false, false, ses, 0, who⟩ (be4 n ++ opsB ops n) ++ rest = [6] ++ (be8 (up64 ses) ++ ((be4 who.length ++ idsB who) ++ ((be4 n ++ opsB ops n) ++ rest))) := by simp [encP]
  rw [eb] at h hb
  refine (get_multi ses who n ops g v rest w hok hgd hn8 h hb hn hg hgf.s0 hgf.s1 hbi.2.2.2.2.2.2.2.1 hbi.2.2.2.2.2.2.2.2).mono ?_
  rintro e w' ⟨wa, wc', oa, oc', cs, rfl, h1, h2, h3, h4, h5, h6, h7⟩
  have hcs : cs = List.ofFn fun i : Fin n => cs[i.1]'(by omega) := by
    apply List.ext_getElem
    · simp [h3]
    · intro i h1 h2; simp
  rw [hcs] at h4
  exact ⟨[.int .i8 6, .string ⟨#[]⟩, .slice none 0 0, .slice none 0 0, .int .i32 0, .bool false, .bool false, .int .i64 ses, .int .i32 0, .slice wa who.length wc', .slice oa n oc'], rfl, rfl, .mk ⟨6, ⟨#[]⟩, [], [], 0, false, false, ses, 0, who⟩ n ops (.slice none 0 0) (.slice none 0 0) (.slice wa who.length wc') (.slice oa n oc') (fun i : Fin n => cs[i.1]'(by omega)) (sees_nil _) (SeesR.nil _ _) h1 h4 (fun k e => by simp [Value.ownBlock] at e) (fun k e => by simp [Value.ownBlock] at e) (fun k e => .inr (h2 k e)) (fun k e => .inr (h5 k e)) (fun i => h6 i.1 (by omega) i.2), h7⟩

theorem getOut_bk (r : Rq) (hok : mayP 8 0 r = true) (hg : r.good) (g : Nat) (v : Value) (rest : List Int) (w : World) (h : IsR w g v (encOut r ++ rest) 0) (hb : Byts (encOut r ++ rest)) (hn : Nam w) (hg0 : 1 < g) : GetsRq 8 0 g v r rest w := by
  cases r with
  | mk f n ops =>
    obtain ⟨h1, h8, hbd, hn8, hin⟩ := mayP_inv hok
    have hfl : flatOk 8 0 f n = true := by
      simp only [mayP, Bool.and_eq_true] at hok
      exact hok.1
    rw [encOut_mk] at h hb
    by_cases k1 : f.kind = 1
    · rw [if_pos k1, encP_more] at h hb; exact get_out1 f n ops k1 hfl hbd hg.1 g v rest w h hb hn hg0
    rw [if_neg k1] at h hb
    by_cases k3 : f.kind = 3
    · rw [if_pos k3, encP_more] at h hb; exact get_out3 f n ops k3 hfl hbd hg.1 g v rest w h hb hn hg0
    rw [if_neg k3] at h hb
    by_cases k4 : f.kind = 4
    · rw [if_pos k4, encP_more] at h hb; exact get_out4 f n ops k4 hfl hbd hg.1 g v rest w h hb hn hg0
    rw [if_neg k4] at h hb
    by_cases k6 : f.kind = 6
    · rw [if_pos k6] at h hb; exact get_out6 f n ops k6 hfl hbd hg.1 hin hg.2.2 hn8 g v rest w h hb hn hg0
    rw [if_neg k6] at h hb
    by_cases k7 : f.kind = 7
    · rw [if_pos k7, encP_more] at h hb; exact get_out7 f n ops k7 hfl hbd hg.1 g v rest w h hb hn hg0
    rw [if_neg k7] at h hb
    by_cases k8 : f.kind = 8
    · rw [if_pos k8, encP_more] at h hb; exact get_out8 f n ops k8 hfl hbd hg.1 g v rest w h hb hn hg0
    rw [if_neg k8, encP_more] at h hb
    by_cases k2 : f.kind = 2
    · exact get_out2 f n ops k2 hfl hbd hg.1 g v rest w h hb hn hg0
    · exact get_out5 f n ops (by omega) hfl hbd hg.1 g v rest w h hb hn hg0
end Go.Proofs.YtldcbabgommghaaGreatDoor

/- txn.Read at the bytes of a transaction that may be: that transaction, in memory of its own. -/
namespace Go.Proofs.YtldcbabgommghaaGreatDoor
open Go.RowKit
set_option maxRecDepth 8000

theorem encOut_ne (r : Rq) : encOut r ≠ [] := by
  cases r with
  | mk f n ops =>
    rw [encOut_mk]
    repeat' split
    all_goals simp [encP]

set_option maxHeartbeats 8000000 in
theorem read_bk (t : TxD) (hok : txOk t = true) (hg : t.good) (u : Value) (w : World) (hu : Sees w u (txB t)) (hn : Nam w) :
    Calls Tryz.prog 131 #[u] w fun e w' => ∃ rc, e = .returned (.tuple #[.agg (txHead t ++ rc).toArray, .int .i64 0]) ∧ RqIn w' (fun k => w.heap.size < k ∧ k < w'.heap.size) rc t.rq ∧ Below w.heap.size w w' := by
  have hlen := txB_t t hok
  have hby := byts_txB t hok hg
  have hm : mayP 8 0 t.rq = true := by
    simp only [txOk, Bool.and_eq_true] at hok
    exact hok.2
  have HCK : Hid (∀ W cs', SeesTx W cs' t → Nam W → Calls Tryz.prog 128 #[.agg cs'.toArray] W fun r w' => r = .returned (.int .i64 0) ∧ Below W.heap.size W w') := fun W cs' hh hN => by
    have := check_any cs' t W hh hg hN
    rw [hok] at this
    exact this
  have HGT : Hid _ := hg
  obtain ⟨ep, tn, srv, boot, num, r⟩ := t
  simp only at hm
  obtain ⟨R5, hR5⟩ : ∃ R5, R5 = encOut r := ⟨_, rfl⟩
  obtain ⟨R4, hR4⟩ : ∃ R4, R4 = be8 (up64 num) ++ R5 := ⟨_, rfl⟩
  obtain ⟨R3, hR3⟩ : ∃ R3, R3 = be4 boot ++ R4 := ⟨_, rfl⟩
  obtain ⟨R2, hR2⟩ : ∃ R2, R2 = [srv % 256] ++ R3 := ⟨_, rfl⟩
  obtain ⟨R1, hR1⟩ : ∃ R1, R1 = be4 tn ++ R2 := ⟨_, rfl⟩
  obtain ⟨R0, hR0⟩ : ∃ R0, R0 = be4 ep ++ R1 := ⟨_, rfl⟩
  have eb : txB ⟨ep, tn, srv, boot, num, r⟩ = R0 := by rw [hR0, hR1, hR2, hR3, hR4, hR5]; simp [txB, headB]
  rw [eb] at hlen hby hu
  have B0 : Hid (Byts R0) := hby
  have B1 : Hid (Byts R1) := by have h1 := B0.out; rw [hR0] at h1; exact h1.right
  have B2 : Hid (Byts R2) := by have h1 := B1.out; rw [hR1] at h1; exact h1.right
  have B3 : Hid (Byts R3) := by have h1 := B2.out; rw [hR2] at h1; exact h1.right
  have B4 : Hid (Byts R4) := by have h1 := B3.out; rw [hR3] at h1; exact h1.right
  have B5 : Hid (Byts R5) := by have h1 := B4.out; rw [hR4] at h1; exact h1.right
  have E0 : Hid _ := hR0
  have E1 : Hid _ := hR1
  have E2 : Hid _ := hR2
  have E3 : Hid _ := hR3
  have E4 : Hid _ := hR4
  have E5 : Hid _ := hR5
  obtain ⟨ao, cap, rfl, _⟩ := id hu
  have HU : Hid (Sees w (.slice ao R0.length cap) R0 ∧ Nam w) := ⟨hu, hn⟩
  have HM : Hid _ := hm
  obtain ⟨L, hL⟩ : ∃ L, L = R0.length := ⟨_, rfl⟩
  rw [← hL] at hlen HU ⊢
  have HLL : Hid _ := hL
  have d0 : decide (4096 < (L : Int)) = false := by simp only [decide_eq_false_iff_not]; omega
  clear hu hn hok hg hby hR0 hR1 hR2 hR3 hR4 hR5 eb hm hL
  obtain ⟨W0, eW⟩ : ∃ W0, W0 = w.alloc (.cells #[.int .u32 0, .int .u32 0, .int .i8 0, .int .u32 0, .int .i64 0, .int .i8 0, .string ⟨#[]⟩, .slice none 0 0, .slice none 0 0, .int .i32 0, .bool false, .bool false, .int .i64 0, .int .i32 0, .slice none 0 0, .slice none 0 0] 37) := ⟨_, rfl⟩
  have HE0 : Hid _ := eW
  have HB0 : Hid (Below w.heap.size w W0 ∧ W0.heap.size = w.heap.size + 1 ∧ W0.heap[w.heap.size]? = some (.cells #[.int .u32 0, .int .u32 0, .int .i8 0, .int .u32 0, .int .i64 0, .int .i8 0, .string ⟨#[]⟩, .slice none 0 0, .slice none 0 0, .int .i32 0, .bool false, .bool false, .int .i64 0, .int .i32 0, .slice none 0 0, .slice none 0 0] 37 (0, 0))) := by
    subst eW; exact ⟨one_alloc _ _, by simp, heap_alloc_new _ _⟩
  clear eW
  go_enter Tryz.func131, Tryz.ntmps131
  go_wp2_with fail
  rw [← HE0.out]
  refine (new_any _ R0 _ (HU.out.1.below HB0.out.1 (Nat.le_refl _)) (by have := HLL.out; omega)).mono ?_
  rintro _ w1 ⟨g, v, rfl, hR, hg1, ho, b1⟩
  obtain ⟨V, eV⟩ : ∃ V, V = w1.alloc (.cells #[.int .u32 0, .int .u32 0, .int .i8 0, .int .u32 0, .int .i64 0, .int .i8 0, .string ⟨#[]⟩, .slice none 0 0, .slice none 0 0, .int .i32 0, .bool false, .bool false, .int .i64 0, .int .i32 0, .slice none 0 0, .slice none 0 0] 37) := ⟨_, rfl⟩
  have HR : Hid (RDs w V g v R0 w1.heap.size #[.int .u32 0, .int .u32 0, .int .i8 0, .int .u32 0, .int .i64 0, .int .i8 0, .string ⟨#[]⟩, .slice none 0 0, .slice none 0 0, .int .i32 0, .bool false, .bool false, .int .i64 0, .int .i32 0, .slice none 0 0, .slice none 0 0]) := by
    have hs := HB0.out.2.1
    have hb01 : Below w.heap.size w w1 := HB0.out.1.trans (b1.mono HB0.out.1.size)
    have hka : Kept w1 V (fun _ => False) := by subst eV; exact (Kept.refl w1 (fun _ => False)).alloc _
    have hvb : Below w.heap.size w V := by subst eV; exact hb01.alloc hb01.size _
    have ho1 : w1.heap[w.heap.size]? = some (.cells #[.int .u32 0, .int .u32 0, .int .i8 0, .int .u32 0, .int .i64 0, .int .i8 0, .string ⟨#[]⟩, .slice none 0 0, .slice none 0 0, .int .i32 0, .bool false, .bool false, .int .i64 0, .int .i32 0, .slice none 0 0, .slice none 0 0] 37 (0, 0)) := by
      rw [b1.block w.heap.size (by omega)]; exact HB0.out.2.2
    refine ⟨hR.kept hka (fun h => h) (fun _ _ h => h), by subst eV; exact heap_alloc_new _ _, hka.heap ho1 (fun h => h), HU.out.2.below hvb HU.out.2.lt, HU.out.2.lt, by omega, lt_of_block hR.1, fun _ k hk => ?_, hvb⟩
    have := ho.lt k hk
    omega
  have HE : Hid _ := eV
  obtain ⟨z, hz⟩ : ∃ z, z = w1.heap.size := ⟨_, rfl⟩
  rw [← hz] at HR
  clear hR hg1 ho b1 HB0 HE0 eV
  go_wp2_with fail
  rw [← HE.out, ← hz]
  clear HE hz
  refine (gU32 (v := v) (rest := R1) ep (by have h1 := HR.out.r; rw [E0.out] at h1; exact h1) (by have h1 := B0.out; rw [E0.out] at h1; exact h1)).mono ?_
  rintro _ w2 ⟨rfl, hr⟩
  obtain ⟨v2, h2⟩ := HR.out.read (by rw [E0.out]; simp [be4]) hr
  have f0 := h2.fr 0
  have c0 := h2.cell 0
  simp at c0
  have HR2 : Hid (RDs w (w2.setCell ⟨z, 0, none⟩ (.int .u32 ep)) g v2 R1 z #[.int .u32 ep, .int .u32 0, .int .i8 0, .int .u32 0, .int .i64 0, .int .i8 0, .string ⟨#[]⟩, .slice none 0 0, .slice none 0 0, .int .i32 0, .bool false, .bool false, .int .i64 0, .int .i32 0, .slice none 0 0, .slice none 0 0]) := h2.set 0 (.int .u32 ep)
  clear hr h2 HR
  go_wp2_with fail
  clear f0 c0
  refine (gU32 (v := v2) (rest := R2) tn (by have h1 := HR2.out.r; rw [E1.out] at h1; exact h1) (by have h1 := B1.out; rw [E1.out] at h1; exact h1)).mono ?_
  rintro _ w3 ⟨rfl, hr⟩
  obtain ⟨v3, h2⟩ := HR2.out.read (by rw [E1.out]; simp [be4]) hr
  have f0 := h2.fr 1
  have c0 := h2.cell 1
  simp at c0
  have HR3 : Hid (RDs w (w3.setCell ⟨z, 1, none⟩ (.int .u32 tn)) g v3 R2 z #[.int .u32 ep, .int .u32 tn, .int .i8 0, .int .u32 0, .int .i64 0, .int .i8 0, .string ⟨#[]⟩, .slice none 0 0, .slice none 0 0, .int .i32 0, .bool false, .bool false, .int .i64 0, .int .i32 0, .slice none 0 0, .slice none 0 0]) := h2.set 1 (.int .u32 tn)
  clear hr h2 HR2
  go_wp2_with fail
  clear f0 c0
  refine (gI8 (v := v3) (rest := R3) srv (by have h1 := HR3.out.r; rw [E2.out] at h1; exact h1) (by have h1 := B2.out; rw [E2.out] at h1; exact h1) HGT.out.s0 HGT.out.s1).mono ?_
  rintro _ w4 ⟨rfl, hr⟩
  obtain ⟨v4, h2⟩ := HR3.out.read (by rw [E2.out]; simp) hr
  have f0 := h2.fr 2
  have c0 := h2.cell 2
  simp at c0
  have HR4 : Hid (RDs w (w4.setCell ⟨z, 2, none⟩ (.int .i8 srv)) g v4 R3 z #[.int .u32 ep, .int .u32 tn, .int .i8 srv, .int .u32 0, .int .i64 0, .int .i8 0, .string ⟨#[]⟩, .slice none 0 0, .slice none 0 0, .int .i32 0, .bool false, .bool false, .int .i64 0, .int .i32 0, .slice none 0 0, .slice none 0 0]) := h2.set 2 (.int .i8 srv)
  clear hr h2 HR3
  go_wp2_with fail
  clear f0 c0
  refine (gU32 (v := v4) (rest := R4) boot (by have h1 := HR4.out.r; rw [E3.out] at h1; exact h1) (by have h1 := B3.out; rw [E3.out] at h1; exact h1)).mono ?_
  rintro _ w5 ⟨rfl, hr⟩
  obtain ⟨v5, h2⟩ := HR4.out.read (by rw [E3.out]; simp [be4]) hr
  have f0 := h2.fr 3
  have c0 := h2.cell 3
  simp at c0
  have HR5 : Hid (RDs w (w5.setCell ⟨z, 3, none⟩ (.int .u32 boot)) g v5 R4 z #[.int .u32 ep, .int .u32 tn, .int .i8 srv, .int .u32 boot, .int .i64 0, .int .i8 0, .string ⟨#[]⟩, .slice none 0 0, .slice none 0 0, .int .i32 0, .bool false, .bool false, .int .i64 0, .int .i32 0, .slice none 0 0, .slice none 0 0]) := h2.set 3 (.int .u32 boot)
  clear hr h2 HR4
  go_wp2_with fail
  clear f0 c0
  refine (gI64 (v := v5) (rest := R5) num (by have h1 := HR5.out.r; rw [E4.out] at h1; exact h1) (by have h1 := B4.out; rw [E4.out] at h1; exact h1) HGT.out.m0 HGT.out.m1).mono ?_
  rintro _ w6 ⟨rfl, hr⟩
  obtain ⟨v6, h2⟩ := HR5.out.read (by rw [E4.out]; simp [be8, be4]) hr
  have f0 := h2.fr 4
  have c0 := h2.cell 4
  simp at c0
  have HR6 : Hid (RDs w (w6.setCell ⟨z, 4, none⟩ (.int .i64 num)) g v6 R5 z #[.int .u32 ep, .int .u32 tn, .int .i8 srv, .int .u32 boot, .int .i64 num, .int .i8 0, .string ⟨#[]⟩, .slice none 0 0, .slice none 0 0, .int .i32 0, .bool false, .bool false, .int .i64 0, .int .i32 0, .slice none 0 0, .slice none 0 0]) := h2.set 4 (.int .i64 num)
  clear hr h2 HR5
  go_wp2_with fail
  clear f0 c0
  refine (proposed_any _).mono ?_
  rintro _ w7 ⟨rfl, b7⟩
  have HR7 : Hid (RDs w w7 g v6 (encOut r ++ []) z #[.int .u32 ep, .int .u32 tn, .int .i8 srv, .int .u32 boot, .int .i64 num, .int .i8 0, .string ⟨#[]⟩, .slice none 0 0, .slice none 0 0, .int .i32 0, .bool false, .bool false, .int .i64 0, .int .i32 0, .slice none 0 0, .slice none 0 0]) := by
    have h1 := HR6.out.later b7
    rw [E5.out] at h1
    rw [List.append_nil]
    exact h1
  have HVL : Hid (∀ k, v6.ownBlock = some k → w.heap.size < k ∧ k < z) := HR7.out.vlt (by rw [List.append_nil]; exact encOut_ne r)
  clear b7 HR6
  have HX := getOut_bk r HM.out HGT.out.rq g v6 [] w7 HR7.out.r (by rw [List.append_nil, ← E5.out]; exact B5.out) HR7.out.nam (by have := HR7.out.ng; have := HR7.out.gl; omega)
  go_wp2_with fail
  refine Calls.mono HX ?_
  clear HX
  rintro _ w8 ⟨cs, rfl, hcl, hrq, hr⟩
  obtain ⟨q0, q1, d0, d1, d2, a0, a1, a2, q4, q5, q6, q7, q8, e0, e1, e2, o0, o1, o2, rfl⟩ := rq_forms hrq.sees
  obtain ⟨v8', x1, x2, x3⟩ := hr
  have hz7 := lt_of_block HR7.out.q
  obtain ⟨v8, h8⟩ := HR7.out.got ⟨⟨v8', x1⟩, x3⟩
  have hth : w8.there z 5 11 := fun j hj => ⟨by
    rw [h8.cell (5 + j), Array.getElem?_eq_getElem (by simp; omega)]
    rfl, h8.fr (5 + j)⟩
  obtain ⟨hrow8, hk8⟩ := stored5 (.int .i8 q0) (.string q1) (.slice d0 d1 d2) (.slice a0 a1 a2) (.int .i32 q4) (.bool q5) (.bool q6) (.int .i64 q7) (.int .i32 q8) (.slice e0 e1 e2) (.slice o0 o1 o2) h8.q
  obtain ⟨U, eU⟩ : ∃ U, U = (((((((((((w8.setCell ⟨z, 5, none⟩ (.int .i8 q0)).setCell ⟨z, 6, none⟩ (.string q1)).setCell ⟨z, 7, none⟩ (.slice d0 d1 d2)).setCell ⟨z, 8, none⟩ (.slice a0 a1 a2)).setCell ⟨z, 9, none⟩ (.int .i32 q4)).setCell ⟨z, 10, none⟩ (.bool q5)).setCell ⟨z, 11, none⟩ (.bool q6)).setCell ⟨z, 12, none⟩ (.int .i64 q7)).setCell ⟨z, 13, none⟩ (.int .i32 q8)).setCell ⟨z, 14, none⟩ (.slice e0 e1 e2)).setCell ⟨z, 15, none⟩ (.slice o0 o1 o2)) := ⟨_, rfl⟩
  rw [← eU] at hrow8 hk8
  have HU8 : Hid (RDs w U g v8 [] z #[.int .u32 ep, .int .u32 tn, .int .i8 srv, .int .u32 boot, .int .i64 num, .int .i8 q0, .string q1, .slice d0 d1 d2, .slice a0 a1 a2, .int .i32 q4, .bool q5, .bool q6, .int .i64 q7, .int .i32 q8, .slice e0 e1 e2, .slice o0 o1 o2] ∧ RqIn U (fun k => w.heap.size < k ∧ k < U.heap.size) [.int .i8 q0, .string q1, .slice d0 d1 d2, .slice a0 a1 a2, .int .i32 q4, .bool q5, .bool q6, .int .i64 q7, .int .i32 q8, .slice e0 e1 e2, .slice o0 o1 o2] r) := by
    have ya := h8.gl
    have yb := h8.gt
    refine ⟨⟨isR_keep h8.r hk8 (by omega) (fun hx => absurd rfl hx), hrow8, hk8.heap h8.o (by omega), h8.nam.kept hk8 (fun k hk' e => by have := h8.ng; omega), h8.ng, h8.gl, h8.gt, fun hx => absurd rfl hx, h8.bel.trans (hk8.below h8.bel.size (fun k e => by omega))⟩, ?_⟩
    have hsz8 := hk8.size
    have hz8 := lt_of_block h8.q
    refine RqIn.kept (F' := fun k => w.heap.size < k ∧ k < U.heap.size) hk8 (fun k hq => ?_) hrq
    rcases hq with e | ⟨e1, e2⟩
    · have h1 := HVL.out k e
      exact ⟨by omega, h1.1, by omega⟩
    · exact ⟨by omega, by omega, by omega⟩
  have HEU : Hid (w8.setCells z 5 (#[.int .i8 q0, .string q1, .slice d0 d1 d2, .slice a0 a1 a2, .int .i32 q4, .bool q5, .bool q6, .int .i64 q7, .int .i32 q8, .slice e0 e1 e2, .slice o0 o1 o2] : Array Value).toList = U) := by
    show _ = _
    rw [eU]
    simp only [World.setCells]
  clear eU h8 hrq x1 x2 x3 hcl HR7 hz7 hrow8 hk8
  go_upto_region 11 with (refine wpList_store_mid rfl 35 _ _ rfl z 5 #[.int .i8 q0, .string q1, .slice d0 d1 d2, .slice a0 a1 a2, .int .i32 q4, .bool q5, .bool q6, .int .i64 q7, .int .i32 q8, .slice e0 e1 e2, .slice o0 o1 o2] rfl rfl hth rq_size (by simp [Value.oneCell']) ?_)
  rw [HEU.out]
  clear HEU hth
  go_wp2_with fail
  refine (rEnd_any g v8 [] 0 _ HU8.out.1.r).mono ?_
  rintro _ w9 ⟨rfl, rfl⟩
  simp only [ne_eq, not_true_eq_false, if_false, if_true]
  have c0 : w9.cell? ⟨z, 0, none⟩ = some (.int .u32 ep) := HU8.out.1.cell 0
  have c1 : w9.cell? ⟨z, 1, none⟩ = some (.int .u32 tn) := HU8.out.1.cell 1
  have c2 : w9.cell? ⟨z, 2, none⟩ = some (.int .i8 srv) := HU8.out.1.cell 2
  have c3 : w9.cell? ⟨z, 3, none⟩ = some (.int .u32 boot) := HU8.out.1.cell 3
  have c4 : w9.cell? ⟨z, 4, none⟩ = some (.int .i64 num) := HU8.out.1.cell 4
  have c5 : w9.cell? ⟨z, 5, none⟩ = some (.int .i8 q0) := HU8.out.1.cell 5
  have c6 : w9.cell? ⟨z, 6, none⟩ = some (.string q1) := HU8.out.1.cell 6
  have c7 : w9.cell? ⟨z, 7, none⟩ = some (.slice d0 d1 d2) := HU8.out.1.cell 7
  have c8 : w9.cell? ⟨z, 8, none⟩ = some (.slice a0 a1 a2) := HU8.out.1.cell 8
  have c9 : w9.cell? ⟨z, 9, none⟩ = some (.int .i32 q4) := HU8.out.1.cell 9
  have c10 : w9.cell? ⟨z, 10, none⟩ = some (.bool q5) := HU8.out.1.cell 10
  have c11 : w9.cell? ⟨z, 11, none⟩ = some (.bool q6) := HU8.out.1.cell 11
  have c12 : w9.cell? ⟨z, 12, none⟩ = some (.int .i64 q7) := HU8.out.1.cell 12
  have c13 : w9.cell? ⟨z, 13, none⟩ = some (.int .i32 q8) := HU8.out.1.cell 13
  have c14 : w9.cell? ⟨z, 14, none⟩ = some (.slice e0 e1 e2) := HU8.out.1.cell 14
  have c15 : w9.cell? ⟨z, 15, none⟩ = some (.slice o0 o1 o2) := HU8.out.1.cell 15
  go_wp2_with fail
  clear c0 c1 c2 c3 c4 c5 c6 c7 c8 c9 c10 c11 c12 c13 c14 c15
  refine (HCK.out _ [.int .u32 ep, .int .u32 tn, .int .i8 srv, .int .u32 boot, .int .i64 num, .int .i8 q0, .string q1, .slice d0 d1 d2, .slice a0 a1 a2, .int .i32 q4, .bool q5, .bool q6, .int .i64 q7, .int .i32 q8, .slice e0 e1 e2, .slice o0 o1 o2] ⟨_, rfl, HU8.out.2.sees⟩ HU8.out.1.nam).mono ?_
  rintro _ w10 ⟨rfl, b10⟩
  have H10 : Hid (RDs w w10 g v8 [] z #[.int .u32 ep, .int .u32 tn, .int .i8 srv, .int .u32 boot, .int .i64 num, .int .i8 q0, .string q1, .slice d0 d1 d2, .slice a0 a1 a2, .int .i32 q4, .bool q5, .bool q6, .int .i64 q7, .int .i32 q8, .slice e0 e1 e2, .slice o0 o1 o2] ∧ RqIn w10 (fun k => w.heap.size < k ∧ k < w10.heap.size) [.int .i8 q0, .string q1, .slice d0 d1 d2, .slice a0 a1 a2, .int .i32 q4, .bool q5, .bool q6, .int .i64 q7, .int .i32 q8, .slice e0 e1 e2, .slice o0 o1 o2] r) := ⟨HU8.out.1.later b10, RqIn.kept (Below.kept b10) (fun k hq => ⟨by have := hq.2; omega, hq.1, Nat.lt_of_lt_of_le hq.2 b10.size⟩) HU8.out.2⟩
  clear b10 HU8 HCK
  have hld1 := H10.out.1.q
  have hst1 := H10.out.1.o
  have hrow := setRow_heap w10 w.heap.size _ #[.int .u32 ep, .int .u32 tn, .int .i8 srv, .int .u32 boot, .int .i64 num, .int .i8 q0, .string q1, .slice d0 d1 d2, .slice a0 a1 a2, .int .i32 q4, .bool q5, .bool q6, .int .i64 q7, .int .i32 q8, .slice e0 e1 e2, .slice o0 o1 o2] _ _ hst1
  have hk : Kept w10 (w10.setRow w.heap.size #[.int .u32 ep, .int .u32 tn, .int .i8 srv, .int .u32 boot, .int .i64 num, .int .i8 q0, .string q1, .slice d0 d1 d2, .slice a0 a1 a2, .int .i32 q4, .bool q5, .bool q6, .int .i64 q7, .int .i32 q8, .slice e0 e1 e2, .slice o0 o1 o2]) (fun k => k = w.heap.size) := ⟨rfl, rfl, rfl, by simp, fun k _ hn => setRow_other _ _ _ _ hn⟩
  have HF : Hid _ := And.intro hrow hk
  clear hrow hk
  go_wp2_with (first | (refine wpList_load_row rfl 37 _ rfl z rfl 37 _ (0, 0) _ hld1 Tryz.underlying37 rfl tx_size ?_) | (refine wpList_store_row rfl 37 _ _ rfl w.heap.size #[.int .u32 ep, .int .u32 tn, .int .i8 srv, .int .u32 boot, .int .i64 num, .int .i8 q0, .string q1, .slice d0 d1 d2, .slice a0 a1 a2, .int .i32 q4, .bool q5, .bool q6, .int .i64 q7, .int .i32 q8, .slice e0 e1 e2, .slice o0 o1 o2] rfl rfl 37 _ hst1 tx_size rfl (by simp [Value.oneCell']) ?_))
  obtain ⟨hrow, hk⟩ := HF.out
  have hbl : Below w.heap.size w (w10.setRow w.heap.size #[.int .u32 ep, .int .u32 tn, .int .i8 srv, .int .u32 boot, .int .i64 num, .int .i8 q0, .string q1, .slice d0 d1 d2, .slice a0 a1 a2, .int .i32 q4, .bool q5, .bool q6, .int .i64 q7, .int .i32 q8, .slice e0 e1 e2, .slice o0 o1 o2]) := H10.out.1.bel.trans (hk.below H10.out.1.bel.size (fun k e => by omega))
  refine bodyPost_ret (v := .tuple #[.agg #[.int .u32 ep, .int .u32 tn, .int .i8 srv, .int .u32 boot, .int .i64 num, .int .i8 q0, .string q1, .slice d0 d1 d2, .slice a0 a1 a2, .int .i32 q4, .bool q5, .bool q6, .int .i64 q7, .int .i32 q8, .slice e0 e1 e2, .slice o0 o1 o2], .int .i64 0]) ?_ rfl ⟨[.int .i8 q0, .string q1, .slice d0 d1 d2, .slice a0 a1 a2, .int .i32 q4, .bool q5, .bool q6, .int .i64 q7, .int .i32 q8, .slice e0 e1 e2, .slice o0 o1 o2], rfl, ?_, hbl⟩
  · have hld := run_loadVar_row (P := Tryz.prog) _ _ _ 37 _ _ _ hrow Tryz.underlying37 rfl tx_size
    rw [results_cell_tmp Tryz.results131]
    show ((asAddr (.pointer (some ⟨w.heap.size, 0, none⟩))).run Tryz.prog _).andThen _ = _
    simp only [asAddr, Sem.run_pure, Result.andThen_ok, hld]
    rfl
  · exact RqIn.kept hk (fun k hq => ⟨by have := hq.1; omega, hq.1, by simpa using hq.2⟩) H10.out.2
end Go.Proofs.YtldcbabgommghaaGreatDoor
