/- The document's may and the program's bits agree, within a Multi. No Go function is walked here. -/
import Derived.Test.YteoghfmhbdkjbaaGreatDoorWdQJ
import Derived.Test.YteoghfmhbdkjbaaGreatDoorMayBJ
namespace Go.Proofs.YteoghfmhbdkjbaaGreatDoor
open Go.RowKit
set_option maxRecDepth 8000

set_option maxHeartbeats 1000000 in
theorem inF_1 (f : RqF) (n : Nat) (y : Bool) (hy : n = 0 → y = true) (h : f.kind = 1) : (flatOk 5 320 f n && (bdOk f && (decide ((n : Int) ≤ 8) && y))) = (decide (f.ses = 0) && decide (f.who.length = 0) && mayF f n) := by
  obtain ⟨kind, path, data, acl, ver, eph, seq, ses, tmo, who⟩ := f
  simp only at h
  subst h
  have e1 : nms 5 320 1 = 55 := by decide +kernel
  have e2 : need 1 = 0 := by decide +kernel
  have e3 : (lt4 1).toList.isEmpty = false := by decide +kernel
  have hp : hasB (lt4 1) 112 = true := by decide +kernel
  have hd : hasB (lt4 1) 100 = true := by decide +kernel
  have ha : hasB (lt4 1) 97 = true := by decide +kernel
  have hv : hasB (lt4 1) 118 = false := by decide +kernel
  have hf : hasB (lt4 1) 102 = true := by decide +kernel
  have hs : hasB (lt4 1) 115 = true := by decide +kernel
  have ht : hasB (lt4 1) 116 = false := by decide +kernel
  have hw : hasB (lt4 1) 119 = true := by decide +kernel
  have ho : hasB (lt4 1) 111 = false := by decide +kernel
  unfold mayF mayB flatOk bdOk fz
  simp only [e1, e2, e3, fz_55, nd_0, hp, hd, ha, hv, hf, hs, ht, hw, ho]
  generalize aclOk acl = x1
  generalize whoOk who = x2
  generalize path.toList.isEmpty = x3
  generalize path.size = x4
  generalize data.length = x5
  generalize acl.length = x6
  generalize who.length = x7
  rw [Bool.eq_iff_iff]
  by_cases hn : n = 0
  · have hy1 := hy hn
    clear hy
    subst hn hy1
    cases x1 <;> cases x2 <;> cases x3 <;> cases eph <;> cases seq <;> simp <;> omega
  · clear hy
    cases x1 <;> cases x2 <;> cases x3 <;> cases eph <;> cases seq <;> cases y <;> simp <;> omega

set_option maxHeartbeats 1000000 in
theorem inF_2 (f : RqF) (n : Nat) (y : Bool) (hy : n = 0 → y = true) (h : f.kind = 2) : (flatOk 5 320 f n && (bdOk f && (decide ((n : Int) ≤ 8) && y))) = (decide (f.ses = 0) && decide (f.who.length = 0) && mayF f n) := by
  obtain ⟨kind, path, data, acl, ver, eph, seq, ses, tmo, who⟩ := f
  simp only at h
  subst h
  have e1 : nms 5 320 2 = 9 := by decide +kernel
  have e2 : need 2 = 0 := by decide +kernel
  have e3 : (lt4 2).toList.isEmpty = false := by decide +kernel
  have hp : hasB (lt4 2) 112 = true := by decide +kernel
  have hd : hasB (lt4 2) 100 = false := by decide +kernel
  have ha : hasB (lt4 2) 97 = false := by decide +kernel
  have hv : hasB (lt4 2) 118 = true := by decide +kernel
  have hf : hasB (lt4 2) 102 = false := by decide +kernel
  have hs : hasB (lt4 2) 115 = true := by decide +kernel
  have ht : hasB (lt4 2) 116 = false := by decide +kernel
  have hw : hasB (lt4 2) 119 = true := by decide +kernel
  have ho : hasB (lt4 2) 111 = false := by decide +kernel
  unfold mayF mayB flatOk bdOk fz
  simp only [e1, e2, e3, fz_9, nd_0, hp, hd, ha, hv, hf, hs, ht, hw, ho]
  generalize aclOk acl = x1
  generalize whoOk who = x2
  generalize path.toList.isEmpty = x3
  generalize path.size = x4
  generalize data.length = x5
  generalize acl.length = x6
  generalize who.length = x7
  rw [Bool.eq_iff_iff]
  by_cases hn : n = 0
  · have hy1 := hy hn
    clear hy
    subst hn hy1
    cases x1 <;> cases x2 <;> cases x3 <;> cases eph <;> cases seq <;> simp <;> omega
  · clear hy
    cases x1 <;> cases x2 <;> cases x3 <;> cases eph <;> cases seq <;> cases y <;> simp <;> omega

set_option maxHeartbeats 1000000 in
theorem inF_3 (f : RqF) (n : Nat) (y : Bool) (hy : n = 0 → y = true) (h : f.kind = 3) : (flatOk 5 320 f n && (bdOk f && (decide ((n : Int) ≤ 8) && y))) = (decide (f.ses = 0) && decide (f.who.length = 0) && mayF f n) := by
  obtain ⟨kind, path, data, acl, ver, eph, seq, ses, tmo, who⟩ := f
  simp only at h
  subst h
  have e1 : nms 5 320 3 = 11 := by decide +kernel
  have e2 : need 3 = 0 := by decide +kernel
  have e3 : (lt4 3).toList.isEmpty = false := by decide +kernel
  have hp : hasB (lt4 3) 112 = true := by decide +kernel
  have hd : hasB (lt4 3) 100 = true := by decide +kernel
  have ha : hasB (lt4 3) 97 = false := by decide +kernel
  have hv : hasB (lt4 3) 118 = true := by decide +kernel
  have hf : hasB (lt4 3) 102 = false := by decide +kernel
  have hs : hasB (lt4 3) 115 = true := by decide +kernel
  have ht : hasB (lt4 3) 116 = false := by decide +kernel
  have hw : hasB (lt4 3) 119 = true := by decide +kernel
  have ho : hasB (lt4 3) 111 = false := by decide +kernel
  unfold mayF mayB flatOk bdOk fz
  simp only [e1, e2, e3, fz_11, nd_0, hp, hd, ha, hv, hf, hs, ht, hw, ho]
  generalize aclOk acl = x1
  generalize whoOk who = x2
  generalize path.toList.isEmpty = x3
  generalize path.size = x4
  generalize data.length = x5
  generalize acl.length = x6
  generalize who.length = x7
  rw [Bool.eq_iff_iff]
  by_cases hn : n = 0
  · have hy1 := hy hn
    clear hy
    subst hn hy1
    cases x1 <;> cases x2 <;> cases x3 <;> cases eph <;> cases seq <;> simp <;> omega
  · clear hy
    cases x1 <;> cases x2 <;> cases x3 <;> cases eph <;> cases seq <;> cases y <;> simp <;> omega

set_option maxHeartbeats 1000000 in
theorem inF_4 (f : RqF) (n : Nat) (y : Bool) (hy : n = 0 → y = true) (h : f.kind = 4) : (flatOk 5 320 f n && (bdOk f && (decide ((n : Int) ≤ 8) && y))) = (decide (f.ses = 0) && decide (f.who.length = 0) && mayF f n) := by
  obtain ⟨kind, path, data, acl, ver, eph, seq, ses, tmo, who⟩ := f
  simp only at h
  subst h
  have e1 : nms 5 320 4 = 13 := by decide +kernel
  have e2 : need 4 = 0 := by decide +kernel
  have e3 : (lt4 4).toList.isEmpty = false := by decide +kernel
  have hp : hasB (lt4 4) 112 = true := by decide +kernel
  have hd : hasB (lt4 4) 100 = false := by decide +kernel
  have ha : hasB (lt4 4) 97 = true := by decide +kernel
  have hv : hasB (lt4 4) 118 = true := by decide +kernel
  have hf : hasB (lt4 4) 102 = false := by decide +kernel
  have hs : hasB (lt4 4) 115 = true := by decide +kernel
  have ht : hasB (lt4 4) 116 = false := by decide +kernel
  have hw : hasB (lt4 4) 119 = true := by decide +kernel
  have ho : hasB (lt4 4) 111 = false := by decide +kernel
  unfold mayF mayB flatOk bdOk fz
  simp only [e1, e2, e3, fz_13, nd_0, hp, hd, ha, hv, hf, hs, ht, hw, ho]
  generalize aclOk acl = x1
  generalize whoOk who = x2
  generalize path.toList.isEmpty = x3
  generalize path.size = x4
  generalize data.length = x5
  generalize acl.length = x6
  generalize who.length = x7
  rw [Bool.eq_iff_iff]
  by_cases hn : n = 0
  · have hy1 := hy hn
    clear hy
    subst hn hy1
    cases x1 <;> cases x2 <;> cases x3 <;> cases eph <;> cases seq <;> simp <;> omega
  · clear hy
    cases x1 <;> cases x2 <;> cases x3 <;> cases eph <;> cases seq <;> cases y <;> simp <;> omega

set_option maxHeartbeats 1000000 in
theorem inF_5 (f : RqF) (n : Nat) (y : Bool) (hy : n = 0 → y = true) (h : f.kind = 5) : (flatOk 5 320 f n && (bdOk f && (decide ((n : Int) ≤ 8) && y))) = (decide (f.ses = 0) && decide (f.who.length = 0) && mayF f n) := by
  obtain ⟨kind, path, data, acl, ver, eph, seq, ses, tmo, who⟩ := f
  simp only at h
  subst h
  have e1 : nms 5 320 5 = 9 := by decide +kernel
  have e2 : need 5 = 0 := by decide +kernel
  have e3 : (lt4 5).toList.isEmpty = false := by decide +kernel
  have hp : hasB (lt4 5) 112 = true := by decide +kernel
  have hd : hasB (lt4 5) 100 = false := by decide +kernel
  have ha : hasB (lt4 5) 97 = false := by decide +kernel
  have hv : hasB (lt4 5) 118 = true := by decide +kernel
  have hf : hasB (lt4 5) 102 = false := by decide +kernel
  have hs : hasB (lt4 5) 115 = true := by decide +kernel
  have ht : hasB (lt4 5) 116 = false := by decide +kernel
  have hw : hasB (lt4 5) 119 = true := by decide +kernel
  have ho : hasB (lt4 5) 111 = false := by decide +kernel
  unfold mayF mayB flatOk bdOk fz
  simp only [e1, e2, e3, fz_9, nd_0, hp, hd, ha, hv, hf, hs, ht, hw, ho]
  generalize aclOk acl = x1
  generalize whoOk who = x2
  generalize path.toList.isEmpty = x3
  generalize path.size = x4
  generalize data.length = x5
  generalize acl.length = x6
  generalize who.length = x7
  rw [Bool.eq_iff_iff]
  by_cases hn : n = 0
  · have hy1 := hy hn
    clear hy
    subst hn hy1
    cases x1 <;> cases x2 <;> cases x3 <;> cases eph <;> cases seq <;> simp <;> omega
  · clear hy
    cases x1 <;> cases x2 <;> cases x3 <;> cases eph <;> cases seq <;> cases y <;> simp <;> omega

end Go.Proofs.YteoghfmhbdkjbaaGreatDoor

/- What txn.Check answers where the zxid and the origin may be: by mayBe's answer. -/
namespace Go.Proofs.YteoghfmhbdkjbaaGreatDoor
open Go.RowKit
set_option maxRecDepth 8000

theorem keep16 {W W' : World} {N : Nat} {r0 r1 r2 r3 r4 r5 r6 r7 r8 r9 r10 r11 r12 r13 r14 r15 : Value} (hb : Below W.heap.size W W') (h : W.cell? ⟨N, 0, none⟩ = some r0 ∧ W.cell? ⟨N, 1, none⟩ = some r1 ∧ W.cell? ⟨N, 2, none⟩ = some r2 ∧ W.cell? ⟨N, 3, none⟩ = some r3 ∧ W.cell? ⟨N, 4, none⟩ = some r4 ∧ W.cell? ⟨N, 5, none⟩ = some r5 ∧ W.cell? ⟨N, 6, none⟩ = some r6 ∧ W.cell? ⟨N, 7, none⟩ = some r7 ∧ W.cell? ⟨N, 8, none⟩ = some r8 ∧ W.cell? ⟨N, 9, none⟩ = some r9 ∧ W.cell? ⟨N, 10, none⟩ = some r10 ∧ W.cell? ⟨N, 11, none⟩ = some r11 ∧ W.cell? ⟨N, 12, none⟩ = some r12 ∧ W.cell? ⟨N, 13, none⟩ = some r13 ∧ W.cell? ⟨N, 14, none⟩ = some r14 ∧ W.cell? ⟨N, 15, none⟩ = some r15) :
    W'.cell? ⟨N, 0, none⟩ = some r0 ∧ W'.cell? ⟨N, 1, none⟩ = some r1 ∧ W'.cell? ⟨N, 2, none⟩ = some r2 ∧ W'.cell? ⟨N, 3, none⟩ = some r3 ∧ W'.cell? ⟨N, 4, none⟩ = some r4 ∧ W'.cell? ⟨N, 5, none⟩ = some r5 ∧ W'.cell? ⟨N, 6, none⟩ = some r6 ∧ W'.cell? ⟨N, 7, none⟩ = some r7 ∧ W'.cell? ⟨N, 8, none⟩ = some r8 ∧ W'.cell? ⟨N, 9, none⟩ = some r9 ∧ W'.cell? ⟨N, 10, none⟩ = some r10 ∧ W'.cell? ⟨N, 11, none⟩ = some r11 ∧ W'.cell? ⟨N, 12, none⟩ = some r12 ∧ W'.cell? ⟨N, 13, none⟩ = some r13 ∧ W'.cell? ⟨N, 14, none⟩ = some r14 ∧ W'.cell? ⟨N, 15, none⟩ = some r15 :=
  ⟨cell_later h.1 hb (Nat.le_refl _), cell_later h.2.1 hb (Nat.le_refl _), cell_later h.2.2.1 hb (Nat.le_refl _), cell_later h.2.2.2.1 hb (Nat.le_refl _), cell_later h.2.2.2.2.1 hb (Nat.le_refl _), cell_later h.2.2.2.2.2.1 hb (Nat.le_refl _), cell_later h.2.2.2.2.2.2.1 hb (Nat.le_refl _), cell_later h.2.2.2.2.2.2.2.1 hb (Nat.le_refl _), cell_later h.2.2.2.2.2.2.2.2.1 hb (Nat.le_refl _), cell_later h.2.2.2.2.2.2.2.2.2.1 hb (Nat.le_refl _), cell_later h.2.2.2.2.2.2.2.2.2.2.1 hb (Nat.le_refl _), cell_later h.2.2.2.2.2.2.2.2.2.2.2.1 hb (Nat.le_refl _), cell_later h.2.2.2.2.2.2.2.2.2.2.2.2.1 hb (Nat.le_refl _), cell_later h.2.2.2.2.2.2.2.2.2.2.2.2.2.1 hb (Nat.le_refl _), cell_later h.2.2.2.2.2.2.2.2.2.2.2.2.2.2.1 hb (Nat.le_refl _), cell_later h.2.2.2.2.2.2.2.2.2.2.2.2.2.2.2 hb (Nat.le_refl _)⟩

set_option maxHeartbeats 2000000 in
theorem check_ok (e n sv bt nm k : Int) (s : ByteArray) (da aa wa oa : Option Addr) (dl dc al ac wl wc ol oc : Nat) (ver : Int) (eph seq : Bool) (ses tmo : Int) (q : Bool) (w : World) (h0 : 0 ≤ e) (h2 : 0 ≤ n)
    (hz : zxOk e n = true) (hO : origOk sv nm = true)
    (hb : ∀ W : World, Below w.heap.size w W → Calls Tryz.prog 27 #[lay 8 0, .agg #[.int .i8 k, .string s, .slice da dl dc, .slice aa al ac, .int .i32 ver, .bool eph, .bool seq, .int .i64 ses, .int .i32 tmo, .slice wa wl wc, .slice oa ol oc]] W fun r W' => r = .returned (.bool q) ∧ Below W.heap.size W W') :
    Calls Tryz.prog 8 #[.agg #[.int .u32 e, .int .u32 n, .int .i8 sv, .int .u32 bt, .int .i64 nm, .int .i8 k, .string s, .slice da dl dc, .slice aa al ac, .int .i32 ver, .bool eph, .bool seq, .int .i64 ses, .int .i32 tmo, .slice wa wl wc, .slice oa ol oc]] w fun r w' => r = .returned (.int .i64 (if q then 0 else 40)) ∧ Below w.heap.size w w' := by
  have HZ : Hid (∀ W : World, Calls Tryz.prog 24 #[.agg #[.int .u32 e, .int .u32 n]] W fun r w' => r = .returned (.bool true) ∧ Below W.heap.size W w') := fun W => by
    rw [← hz]; exact isZxid_any e n W h0 h2
  have HO : Hid (∀ W : World, Calls Tryz.prog 25 #[.agg #[.int .i8 sv, .int .u32 bt, .int .i64 nm]] W fun r w' => r = .returned (.bool true) ∧ Below W.heap.size W w') := fun W => by
    rw [← hO]; exact isOrigin_any sv bt nm W
  have HB : Hid _ := hb
  have HL : Hid (∀ o : Obj, Below w.heap.size w (w.alloc o).drew) := fun o => below_drewN (one_alloc w o) 1
  clear hb hz hO
  go_enter Tryz.func8, Tryz.ntmps8
  go_wp2_with fail
  generalize eW0 : (w.alloc (.cells #[.int .u32 e, .int .u32 n, .int .i8 sv, .int .u32 bt, .int .i64 nm, .int .i8 k, .string s, .slice da dl dc, .slice aa al ac, .int .i32 ver, .bool eph, .bool seq, .int .i64 ses, .int .i32 tmo, .slice wa wl wc, .slice oa ol oc] 35)) = W0
  have k0 : W0.drew.cell? ⟨w.heap.size, 0, none⟩ = some (.int .u32 e) ∧ W0.drew.cell? ⟨w.heap.size, 1, none⟩ = some (.int .u32 n) ∧ W0.drew.cell? ⟨w.heap.size, 2, none⟩ = some (.int .i8 sv) ∧ W0.drew.cell? ⟨w.heap.size, 3, none⟩ = some (.int .u32 bt) ∧ W0.drew.cell? ⟨w.heap.size, 4, none⟩ = some (.int .i64 nm) ∧ W0.drew.cell? ⟨w.heap.size, 5, none⟩ = some (.int .i8 k) ∧ W0.drew.cell? ⟨w.heap.size, 6, none⟩ = some (.string s) ∧ W0.drew.cell? ⟨w.heap.size, 7, none⟩ = some (.slice da dl dc) ∧ W0.drew.cell? ⟨w.heap.size, 8, none⟩ = some (.slice aa al ac) ∧ W0.drew.cell? ⟨w.heap.size, 9, none⟩ = some (.int .i32 ver) ∧ W0.drew.cell? ⟨w.heap.size, 10, none⟩ = some (.bool eph) ∧ W0.drew.cell? ⟨w.heap.size, 11, none⟩ = some (.bool seq) ∧ W0.drew.cell? ⟨w.heap.size, 12, none⟩ = some (.int .i64 ses) ∧ W0.drew.cell? ⟨w.heap.size, 13, none⟩ = some (.int .i32 tmo) ∧ W0.drew.cell? ⟨w.heap.size, 14, none⟩ = some (.slice wa wl wc) ∧ W0.drew.cell? ⟨w.heap.size, 15, none⟩ = some (.slice oa ol oc) := by
    subst eW0
    refine ⟨?_, ?_, ?_, ?_, ?_, ?_, ?_, ?_, ?_, ?_, ?_, ?_, ?_, ?_, ?_, ?_⟩ <;> (show World.cell? (w.alloc _) _ = _; rw [cell_of_row _ _ _ _ _ _ (heap_alloc_new _ _)]; rfl)
  have HG0 : Hid (Below w.heap.size w W0.drew) := by subst eW0; exact HL.out _
  clear HL eW0
  go_region_held (fun w' => w'.cell? ⟨w.heap.size, 0, none⟩ = some (.int .u32 e) ∧ w'.cell? ⟨w.heap.size, 1, none⟩ = some (.int .u32 n) ∧ w'.cell? ⟨w.heap.size, 2, none⟩ = some (.int .i8 sv) ∧ w'.cell? ⟨w.heap.size, 3, none⟩ = some (.int .u32 bt) ∧ w'.cell? ⟨w.heap.size, 4, none⟩ = some (.int .i64 nm) ∧ w'.cell? ⟨w.heap.size, 5, none⟩ = some (.int .i8 k) ∧ w'.cell? ⟨w.heap.size, 6, none⟩ = some (.string s) ∧ w'.cell? ⟨w.heap.size, 7, none⟩ = some (.slice da dl dc) ∧ w'.cell? ⟨w.heap.size, 8, none⟩ = some (.slice aa al ac) ∧ w'.cell? ⟨w.heap.size, 9, none⟩ = some (.int .i32 ver) ∧ w'.cell? ⟨w.heap.size, 10, none⟩ = some (.bool eph) ∧ w'.cell? ⟨w.heap.size, 11, none⟩ = some (.bool seq) ∧ w'.cell? ⟨w.heap.size, 12, none⟩ = some (.int .i64 ses) ∧ w'.cell? ⟨w.heap.size, 13, none⟩ = some (.int .i32 tmo) ∧ w'.cell? ⟨w.heap.size, 14, none⟩ = some (.slice wa wl wc) ∧ w'.cell? ⟨w.heap.size, 15, none⟩ = some (.slice oa ol oc)) (first | exact k0 | exact k1 | exact k2 | exact k3 | exact k4)
    (first
    | (go_at_call 24; refine (HZ.out _).mono ?_; rintro r w1 ⟨rfl, g1⟩; have HG1 : Hid (Below w.heap.size w w1) := HG0.out.trans (g1.mono HG0.out.size); have k1 := keep16 g1 k0; clear k0 HG0 g1)
    | (go_at_call 25; refine (HO.out _).mono ?_; rintro r w2 ⟨rfl, g2⟩; have HG2 : Hid (Below w.heap.size w w2) := HG1.out.trans (g2.mono HG1.out.size); have k2 := keep16 g2 k1; clear k1 HG1 g2)
    | (go_at_call 26; refine (proposed_any _).mono ?_; rintro r w3 ⟨rfl, g3⟩; have HG3 : Hid (Below w.heap.size w w3) := HG2.out.trans (g3.mono HG2.out.size); have k3 := keep16 g3 k2; clear k2 HG2 g3)
    | (go_at_call 27; refine (HB.out _ HG3.out).mono ?_; rintro r w4 ⟨rfl, g4⟩; have HG4 : Hid (Below w.heap.size w w4) := HG3.out.trans (g4.mono HG3.out.size); have k4 := keep16 g4 k3; clear k3 HG3 g4))
  cases q
  all_goals (go_wp2; go_ret; exact ⟨rfl, HG4.out⟩)
end Go.Proofs.YteoghfmhbdkjbaaGreatDoor
