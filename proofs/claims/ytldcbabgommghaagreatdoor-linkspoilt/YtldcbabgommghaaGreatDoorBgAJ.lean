/- parsed of package packet, of bytes whose sum is another one: it gives up. -/
import Derived.Test.YtldcbabgommghaaGreatDoorPkRJ
import Derived.Recover
import Derived.Defers
import Derived.Test.YtldcbabgommghaaGreatDoorLeafSumJ
import Derived.Maps.AppendAt
namespace Go.Proofs.YtldcbabgommghaaGreatDoor
open Go.RowKit
set_option maxRecDepth 8000

set_option maxHeartbeats 8000000 in
theorem parsed_sum (s : Int) (ys : List Int) (hpb : Byts (be4 s ++ ys)) (hys : ys ≠ []) (hl : ys.length ≤ 8188) (hne : s ≠ adler ys) (b : Value) (w : World) (hs : Sees w b (be4 s ++ ys)) (hn : Nam w) (hp : PNam w) :
    Calls Tryz.prog 42 #[b] w fun r w' => r = .panicked [{ v := .iface 123 (.agg #[]), recovered := false }] ∧ Below w.heap.size w w' := by
  have hbb : Byts ys := Byts.right hpb
  have hlb : (be4 s ++ ys).length = 4 + ys.length := by simp [be4]; omega
  have hL4 : 4 < (be4 s ++ ys).length := by have : ys.length ≠ 0 := fun e => hys (List.eq_nil_of_length_eq_zero e); omega
  have hL5 : (be4 s ++ ys).length ≤ 8192 := by omega
  have hq : (s == adler ys) = false := by simpa using hne
  have HX : Hid (Byts (be4 s ++ ys) ∧ Byts ys ∧ Nam w ∧ PNam w) := ⟨hpb, hbb, hn, hp⟩
  obtain ⟨ao, cap, rfl, hcap, _⟩ := id hs
  obtain ⟨ua, m, uc, eP, hsu⟩ := cut4 hs (by omega)
  rw [show (be4 s ++ ys).drop 4 = ys from rfl] at hsu
  have HSU : Hid (∀ k, (Value.slice ua m uc).ownBlock = some k → k < w.heap.size) := fun k e => hsu.lt hys k e
  obtain ⟨L, hL⟩ : ∃ L, L = (be4 s ++ ys).length := ⟨_, rfl⟩
  rw [← hL] at hs hL4 hL5 hcap eP ⊢
  obtain ⟨W, hW⟩ : ∃ W, W = w.alloc (.cells (zPk 0) 39) := ⟨_, rfl⟩
  have HW : Hid (Below w.heap.size w W ∧ W.heap[w.heap.size]? = some (.cells (zPk 0) 39 (0, 0)) ∧ Sees W (.slice ao L cap) (be4 s ++ ys) ∧ Sees W (.slice ua m uc) ys ∧ L = (be4 s ++ ys).length) := by
    have hb : Below w.heap.size w W := by rw [hW]; exact one_alloc _ _
    exact ⟨hb, by rw [hW]; exact heap_alloc_new _ _, hs.below hb (Nat.le_refl _), hsu.below hb (Nat.le_refl _), hL⟩
  have HA : Hid _ := hW
  have hd1 : decide ((L : Int) ≤ 8192) = true := decide_eq_true (by omega)
  have hd2 : decide ((4 : Int) < L) = true := decide_eq_true (by omega)
  clear hW hs hsu hn hp hbb hpb hL hlb hys hl hne
  go_enter Tryz.func42, Tryz.ntmps42
  go_upto_region 1 with fail
  rw [← HA.out]
  clear HA
  go_wp2_with fail
  refine (need_true _).mono ?_
  rintro _ w1 ⟨rfl, h1⟩
  rw [h1]
  clear h1 w1
  go_wp2_with fail
  refine (new_any _ (be4 s ++ ys) _ HW.out.2.2.1 (by have := HW.out.2.2.2.2; omega)).mono ?_
  rintro _ w2 ⟨g, v2, rfl, hR, hgl, ho, b2⟩
  have hsz := lt_of_block HW.out.2.1
  have H2 : Hid (PrH w g w2 ∧ IsR w2 g v2 (be4 s ++ ys) 0 ∧ Sees w2 (.slice ua m uc) ys ∧ (∀ k, v2.ownBlock = some k → w.heap.size < k ∧ k < w2.heap.size)) := by
    have hb2 : Below w.heap.size w w2 := HW.out.1.trans (b2.mono HW.out.1.size)
    have l1 := HX.out.2.2.1.lt
    have l2 := HX.out.2.2.2.lt
    exact ⟨⟨hb2, (Below.kept b2).heap HW.out.2.1 (by omega), HX.out.2.2.1.below hb2 l1, HX.out.2.2.2.below hb2 l2, by omega, by omega, by omega⟩, hR, HW.out.2.2.2.1.below b2 (Nat.le_refl _), fun k e => by have := ho.lt k e; omega⟩
  clear hR hgl ho b2 HW hsz
  go_upto_region 3 with fail
  have HD : Hid (PrH w g w2.drew ∧ IsR w2.drew g v2 (be4 s ++ ys) 0 ∧ Sees w2.drew (.slice ua m uc) ys) := ⟨H2.out.1.later HX.out.2.2.1 HX.out.2.2.2 (below_drewN (Below.refl _ _) 1), H2.out.2.1.kept ((Kept.refl w2 (fun _ => False)).drewN 1) (fun h => h) (fun _ _ h => h), H2.out.2.2.1.below (below_drewN (Below.refl _ _) 1) (Nat.le_refl _)⟩
  refine wp_region_held_drew (S := (fun _ => True)) (by kernel_rfl) ?_ (fun hHeld => ?_)
  · trivial
  refine tkV 0 (v := ?_) rfl (Or.inl ⟨by rfl, ?_⟩) ?_
  rotate_left
  · (intro w hSw; (try dsimp only at hSw); go_simp) <;> with_reducible rfl
  try simp only [Act.put, sA, sB, sC]
  refine tkV 2 (v := ?_) rfl (Or.inl ⟨by rfl, ?_⟩) ?_
  rotate_left
  · (intro w hSw; (try dsimp only at hSw); go_simp) <;> with_reducible rfl
  try simp only [Act.put, sA, sB, sC]
  refine wpAnyH_take (i := 3) (oi := { dst := some 21, op := Op.slice 30 (Operand.tmp 20) (some (Operand.const (Value.int IntKind.i64 4))) none none, type := 30, pos := "packet.go:62", after := #[{ on := 2, ground := Ground.data }], guard := none }) (v := .slice ua m uc) rfl (by kernel_rfl) (by kernel_rfl) (by kernel_rfl) (fun _ _ _ h => h) (Or.inl ⟨by rfl, fun w' hSw => by rw [← eP]; go_simp; intro hlt; omega⟩) (by assumption) ?_
  try simp only [Act.put, sA, sB, sC]
  refine wpAnyH_ready (rs := [1]) (by kernel_rfl) (by simp) ?_
  refine acV 1 rfl (fun K hK => ?_) AllReadyH.nil
  go_simp
  refine (gU32 (g := g) (v := v2) (w := w2.drew) s HD.out.2.1 HX.out.1).mono ?_
  rintro _ w3 ⟨rfl, v3, h1, h2, h3⟩
  have H3 : Hid (PrH w g w3 ∧ IsR w3 g v3 ys 0 ∧ Sees w3 (.slice ua m uc) ys ∧ (∀ k, v3.ownBlock = some k → w.heap.size < k ∧ k < w2.heap.size) ∧ w2.heap.size ≤ w3.heap.size) := ⟨HD.out.1.kept HX.out.2.2.1 HX.out.2.2.2 h3 (fun k e => by have := HD.out.1.gl; omega), h1, HD.out.2.2.kept h3 (fun k e e2 => by have := HSU.out k e; have := HD.out.1.gl; omega), fun k e => H2.out.2.2.2 k (h2 k e), by have := h3.size; simpa using this⟩
  clear h1 h2 h3
  refine hK.out _ _ trivial (fun hHeld => ?_)
  clear hK K
  refine wpAnyH_ready (rs := [4]) (by kernel_rfl) (by simp) ?_
  refine acV 4 rfl (fun K hK => ?_) AllReadyH.nil
  go_simp
  refine (packSum_any _ ys _ H3.out.2.2.1 HX.out.2.1).mono ?_
  rintro _ w4 ⟨rfl, h4⟩
  rw [h4]
  clear h4 w4
  refine hK.out _ _ trivial (fun hHeld => ?_)
  clear hK K
  refine tkV 5 (v := ?_) rfl (Or.inl ⟨by rfl, ?_⟩) ?_
  rotate_left
  · (intro w hSw; (try dsimp only at hSw); go_simp) <;> with_reducible rfl
  try simp only [Act.put, sA, sB, sC]
  refine wpAnyH_ready (rs := [6]) (by kernel_rfl) (by simp) ?_
  refine acV 6 rfl (fun K hK => ?_) AllReadyH.nil
  go_simp
  refine (need_false _).mono ?_
  rintro _ w4 ⟨rfl, h4⟩
  rw [h4]
  clear h4 w4
  exact ⟨rfl, rfl, H3.out.1.bel⟩

end Go.Proofs.YtldcbabgommghaaGreatDoor

/- Read of package packet, of bytes that were laid, and of bytes whose sum is another one. -/
namespace Go.Proofs.YtldcbabgommghaaGreatDoor
open Go.RowKit
set_option maxRecDepth 8000

theorem readDef_idle (a b : Addr) (w : World) : CallsD Tryz.prog 41 #[.pointer (some a), .pointer (some b)] .returning w fun e u' w' => e = .returned (.tuple #[]) ∧ u' = .returning ∧ w' = w := by
  refine callsD_of_wpS Tryz.func41 rfl fun c₀ cs hu => ?_
  apply wpS_seq
  apply wpS_region
  simp [wpOpsS, go_sem, recoverD, hu, Tryz.ntmps41, Exit.thenS]
  refine wpS_cond (t := false) (by simp [Act.eval, Array.replicate]) ?_
  simp only [Bool.false_eq_true, if_false]
  refine wpS_of_wp (wp_skip ?_)
  cases c₀
  simp_all [bodyPostS, results, Tryz.results41]

set_option maxHeartbeats 4000000 in
theorem readDef_panic (q h : Nat) (u : TypeId) (pv : Value) (older : List PanicEntry) (w : World) (hq : w.heap[q]? = some (.cells (zPk 0) 39 (0, 0))) (hh : w.heap[h]? = some (.cells #[.int .i64 0] 42 (0, 0))) (hne : q ≠ h) :
    CallsD Tryz.prog 41 #[.pointer (some ⟨q, 0, none⟩), .pointer (some ⟨h, 0, none⟩)] (.panicking ({ v := .iface u pv, recovered := false } :: older)) w fun e u' w' =>
      e = .returned (.tuple #[]) ∧ u' = .panicking ({ v := .iface u pv, recovered := true } :: older) ∧ w'.heap[q]? = some (.cells (zPk 0) 39 (0, 0)) ∧ w'.heap[h]? = some (.cells #[.int .i64 150] 42 (0, 0)) ∧ Kept w w' (fun k => k = q ∨ k = h) := by
  refine callsD_of_wpS Tryz.func41 rfl fun c₀ cs hu => ?_
  apply wpS_seq
  apply wpS_region
  simp [wpOpsS, go_sem, recoverD, hu, Tryz.ntmps41, Exit.thenS]
  refine wpS_cond (t := true) (by simp [Act.eval, Array.replicate]) ?_
  simp only [if_true]
  rw [show (#[Value.pointer (some ⟨q, 0, none⟩), Value.pointer (some ⟨h, 0, none⟩)] ++ ((Array.replicate 3 undef).setIfInBounds 0 (Value.iface u pv)).setIfInBounds 1 (Value.bool true)) = #[Value.pointer (some ⟨q, 0, none⟩), Value.pointer (some ⟨h, 0, none⟩), Value.iface u pv, Value.bool true, undef] from rfl]
  refine wpS_of_wp ?_
  have q32k : (Tryz.prog.info? 39).map (·.size) = some (zPk 0).size := pkSz0
  have u1k : (zPk 0).all (·.oneCell') = true := by simp [Value.oneCell']
  have szk : (zPk 0).size = (zPk 0).size := rfl
  have r1 : (w.setRow q (zPk 0)).heap[q]? = some (.cells (zPk 0) 39 (0, 0)) := setRow_heap _ _ _ _ _ _ hq
  have r2 : (w.setRow q (zPk 0)).heap[h]? = some (.cells #[.int .i64 0] 42 (0, 0)) := by rw [setRow_other _ _ _ _ (fun e => hne e.symm)]; exact hh
  have k1 : Kept w (w.setRow q (zPk 0)) (fun k => k = q ∨ k = h) := ⟨rfl, rfl, rfl, by simp, fun k _ hn => setRow_other _ _ _ _ (fun e => hn (.inl e))⟩
  have hw1 := hq
  obtain ⟨w1, e1⟩ : ∃ w1, w1 = w.setRow q (zPk 0) := ⟨_, rfl⟩
  rw [← e1] at r1 r2 k1
  have c0 : w1.cell? ⟨h, 0, none⟩ = some (.int .i64 0) := pk_at r2 rfl
  have f0 := frozen_of_row w1 h 0 _ _ r2
  have HE : Hid _ := e1
  have HR : Hid (w1.heap[q]? = some (.cells (zPk 0) 39 (0, 0)) ∧ w1.heap[h]? = some (.cells #[.int .i64 0] 42 (0, 0)) ∧ Kept w w1 (fun k => k = q ∨ k = h) ∧ q ≠ h) := ⟨r1, r2, k1, hne⟩
  clear e1 r1 r2 k1 hne hh hq
  go_wp2_with (first | (refine wpList_store_row rfl 39 _ _ rfl q (zPk 0) rfl rfl 39 _ hw1 q32k szk u1k ?_; rw [← HE.out]))
  have k2 : Kept w1 (w1.setCell ⟨h, 0, none⟩ (.int .i64 150)) (fun k => k = h) := (Kept.refl w1 (fun k => k = h)).setCell ⟨h, 0, none⟩ _ (fun _ => rfl)
  have F1 := k2.heap HR.out.1 HR.out.2.2.2
  have F2 : (w1.setCell ⟨h, 0, none⟩ (.int .i64 150)).heap[h]? = some (.cells #[.int .i64 150] 42 (0, 0)) := heap_setR (i := 0) _ HR.out.2.1
  have F3 : Kept w (w1.setCell ⟨h, 0, none⟩ (.int .i64 150)) (fun k => k = q ∨ k = h) := HR.out.2.2.1.trans k2 (fun k _ e => .inr e)
  clear HR HE c0 f0 k2 hw1 q32k u1k
  generalize (w1.setCell ⟨h, 0, none⟩ (.int .i64 150)) = w2 at *
  simp [bodyPostS, results, Tryz.results41]
  exact ⟨F1, F2, F3⟩

theorem resCell2 {fn : Func} {p q : Tmp} {t u : TypeId} (h : fn.results = #[.cell p t, .cell q u]) (tmps : Array Value) (P : Program) (w : World) : (results fn tmps).run P w = ((asAddr (tmps.getD p undef)).run P w).andThen fun a w' => ((loadVar t a).run P w').andThen fun x w'' => ((asAddr (tmps.getD q undef)).run P w'').andThen fun b w3 => ((loadVar u b).run P w3).andThen fun y w4 => .ok (.tuple #[x, y]) w4 := by
  simp only [results, h]
  simp [Sem.run_bind, Result.andThen]

theorem res2 {P : Program} {fn : Func} {p q : Tmp} {t u : TypeId} (h : fn.results = #[.cell p t, .cell q u]) (tmps : Array Value) (w : World) (a b : Addr) (x y : Value) (hp : tmps.getD p undef = .pointer (some a)) (hq : tmps.getD q undef = .pointer (some b)) (hx : (loadVar t a).run P w = .ok x w) (hy : (loadVar u b).run P w = .ok y w) : (results fn tmps).run P w = .ok (.tuple #[x, y]) w := by
  rw [resCell2 h, hp, hq]
  simp only [asAddr, Sem.run_pure, Result.andThen_ok, hx, hy]

theorem pk_oneS {w : World} {tc : List Value} {bv : Value} {d : PkD} (h : SeesPk w tc bv d) : (pkL d tc bv).toArray.all (·.oneCell') = true := by
  obtain ⟨rc, e, hr⟩ := h.tx
  obtain ⟨b0, b1, b2, rfl⟩ := sees_form h.bys
  obtain ⟨q0, q1, d0, d1, d2, a0, a1, a2, q4, q5, q6, q7, q8, e0, e1, e2, o0, o1, o2, rfl⟩ := rq_forms hr
  subst e
  simp [pkL, Value.oneCell', txHead]

theorem load_errno {w : World} {a : Addr} {x : Value} (h : w.cell? a = some x) : (loadVar 42 a).run Tryz.prog w = .ok x w := by
  have hu := Tryz.underlying42
  simp [loadVar, go_sem, h]

/-- What Read has at its beginning: its two results, in variables. -/
theorem two_res (w : World) : ((w.alloc (.cells (zPk 0) 39)).alloc (.cells #[.int .i64 0] 42)).heap[w.heap.size]? = some (.cells (zPk 0) 39 (0, 0)) ∧ ((w.alloc (.cells (zPk 0) 39)).alloc (.cells #[.int .i64 0] 42)).heap[w.heap.size + 1]? = some (.cells #[.int .i64 0] 42 (0, 0)) := by
  refine ⟨by rw [Below.heap_alloc _ _ _ (by simp)]; exact heap_alloc_new _ _, ?_⟩
  have := heap_alloc_new (w.alloc (.cells (zPk 0) 39)) (.cells #[.int .i64 0] 42)
  simpa using this

set_option maxHeartbeats 4000000 in
theorem readP_sum (s : Int) (ys : List Int) (hpb : Byts (be4 s ++ ys)) (hys : ys ≠ []) (hl : ys.length ≤ 8188) (hne : s ≠ adler ys) (b : Value) (w : World) (hs : Sees w b (be4 s ++ ys)) (hn : Nam w) (hp : PNam w) :
    Calls Tryz.prog 14 #[b] w fun r w' => r = .returned (.tuple #[.agg (zPk 0), .int .i64 150]) ∧ Below w.heap.size w w' := by
  have hmf : ∀ (fn : Fn) (first cap : Array Value) (w : World), (Instr.makeFunc fn first cap).run Tryz.prog w = .ok (.func fn first cap) w := fun _ _ _ _ => rfl
  obtain ⟨W, hW⟩ : ∃ W, W = (w.alloc (.cells (zPk 0) 39)).alloc (.cells #[.int .i64 0] 42) := ⟨_, rfl⟩
  have hb : Below w.heap.size w W := by rw [hW]; exact two_alloc _ _ _
  have HW : Hid (Below w.heap.size w W ∧ W.heap[w.heap.size]? = some (.cells (zPk 0) 39 (0, 0)) ∧ W.heap[w.heap.size + 1]? = some (.cells #[.int .i64 0] 42 (0, 0))) := ⟨hb, by rw [hW]; exact (two_res w).1, by rw [hW]; exact (two_res w).2⟩
  have HP : Hid _ := parsed_sum s ys hpb hys hl hne b W (hs.below hb (Nat.le_refl _)) (hn.below hb hn.lt) (hp.below hb hp.lt)
  obtain ⟨b0, b1, b2, rfl⟩ := sees_form hs
  have HA : Hid _ := hW
  clear hW hb hs hn hp hne hl hys hpb
  go_enter_defers Tryz.func14, Tryz.ntmps14
  go_wp2_with fail
  rw [← HA.out]
  refine Calls.mono HP.out ?_
  rintro _ w1 ⟨rfl, bl⟩
  have hl1 := lt_of_block HW.out.2.2
  have r1 := (Below.kept bl).heap HW.out.2.1 (by omega)
  have r2 := (Below.kept bl).heap HW.out.2.2 (by omega)
  refine leaves_cons (f := 41) (args := #[.pointer (some ⟨w.heap.size, 0, none⟩), .pointer (some ⟨w.heap.size + 1, 0, none⟩)]) (by simp) (by simp [go_sem]) ?_
  refine (readDef_panic w.heap.size (w.heap.size + 1) _ _ [] w1 r1 r2 (by omega)).mono ?_
  rintro e u' w2 ⟨rfl, rfl, s1, s2, k2⟩
  have hld1 := run_loadVar_row (P := Tryz.prog) w2 w.heap.size 39 39 _ (0, 0) _ s1 Tryz.underlying39 rfl pkSz0
  have c2 : w2.cell? ⟨w.heap.size + 1, 0, none⟩ = some (.int .i64 150) := pk_at s2 rfl
  have HF : Hid (Below w.heap.size w w2) := (HW.out.1.trans (bl.mono HW.out.1.size)).trans (k2.below (by have := HW.out.1.size; have := bl.size; omega) (fun k e => by omega))
  clear HW HP HA bl r1 r2 s1 s2 k2
  refine ⟨.tuple #[.agg (zPk 0), .int .i64 150], ?_, rfl, HF.out⟩
  exact res2 Tryz.results14 _ _ _ _ _ _ rfl rfl hld1 (load_errno c2)

set_option maxHeartbeats 4000000 in
theorem readP_good (p : PkD) (tz : Bool) (hz : tz = true ↔ p.tx = txN) (hg : p.good) (hby : Byts p.bys) (hc : chkP p tz = true) (b : Value) (w : World) (hs : Sees w b (pkB p)) (hn : Nam w) (hp : PNam w) :
    Calls Tryz.prog 14 #[b] w fun r w' => ∃ tc bv, r = .returned (.tuple #[.agg (pkL p tc bv).toArray, .int .i64 0]) ∧ OwnPk w' w.heap.size tc bv p ∧ Below w.heap.size w w' := by
  have hmf : ∀ (fn : Fn) (first cap : Array Value) (w : World), (Instr.makeFunc fn first cap).run Tryz.prog w = .ok (.func fn first cap) w := fun _ _ _ _ => rfl
  obtain ⟨W, hW⟩ : ∃ W, W = (w.alloc (.cells (zPk 0) 39)).alloc (.cells #[.int .i64 0] 42) := ⟨_, rfl⟩
  have hb : Below w.heap.size w W := by rw [hW]; exact two_alloc _ _ _
  have HW : Hid (Below w.heap.size w W ∧ W.heap[w.heap.size]? = some (.cells (zPk 0) 39 (0, 0)) ∧ W.heap[w.heap.size + 1]? = some (.cells #[.int .i64 0] 42 (0, 0))) := ⟨hb, by rw [hW]; exact (two_res w).1, by rw [hW]; exact (two_res w).2⟩
  have HP : Hid _ := parsed_good p tz hz hg hby hc b W (hs.below hb (Nat.le_refl _)) (hn.below hb hn.lt) (hp.below hb hp.lt)
  obtain ⟨b0, b1, b2, rfl⟩ := sees_form hs
  have HA : Hid _ := hW
  clear hW hb hs hn hp hc hby hg hz
  go_enter_defers Tryz.func14, Tryz.ntmps14
  go_wp2_with fail
  rw [← HA.out]
  refine Calls.mono HP.out ?_
  rintro _ w1 ⟨tc, bv, rfl, hpk, bl⟩
  have hl1 := lt_of_block HW.out.2.2
  have r1 := (Below.kept bl).heap HW.out.2.1 (by omega)
  have r2 := (Below.kept bl).heap HW.out.2.2 (by omega)
  have q32 := pkSz p tc bv hpk.sees.tx.len
  have u1p : (pkL p tc bv).toArray.all (·.oneCell') = true := pk_oneS hpk.sees
  have szp : (zPk 0).size = (pkL p tc bv).toArray.size := by simp [pkL, hpk.sees.tx.len]
  have F1 := setRow_heap w1 w.heap.size _ (pkL p tc bv).toArray _ _ r1
  have F2 : (w1.setRow w.heap.size (pkL p tc bv).toArray).heap[w.heap.size + 1]? = some (.cells #[.int .i64 0] 42 (0, 0)) := by rw [setRow_other _ _ _ _ (by omega)]; exact r2
  have kf : Kept w1 (w1.setRow w.heap.size (pkL p tc bv).toArray) (fun k => k = w.heap.size) := ⟨rfl, rfl, rfl, by simp, fun k _ hn => setRow_other _ _ _ _ hn⟩
  obtain ⟨w2, e2⟩ : ∃ w2, w2 = w1.setRow w.heap.size (pkL p tc bv).toArray := ⟨_, rfl⟩
  rw [← e2] at F1 F2 kf
  have c2 : w2.cell? ⟨w.heap.size + 1, 0, none⟩ = some (.int .i64 0) := pk_at F2 rfl
  have f2 := frozen_of_row w2 (w.heap.size + 1) 0 _ _ F2
  have k3 : Kept w1 (w2.setCell ⟨w.heap.size + 1, 0, none⟩ (.int .i64 0)) (fun k => k = w.heap.size ∨ k = w.heap.size + 1) := (kf.mono (fun k _ e => Or.inl e)).setCell ⟨w.heap.size + 1, 0, none⟩ _ (fun _ => .inr rfl)
  have HF : Hid ((w2.setCell ⟨w.heap.size + 1, 0, none⟩ (.int .i64 0)).heap[w.heap.size]? = some (.cells (pkL p tc bv).toArray 39 (0, 0)) ∧ (w2.setCell ⟨w.heap.size + 1, 0, none⟩ (.int .i64 0)).cell? ⟨w.heap.size + 1, 0, none⟩ = some (.int .i64 0) ∧ Below w.heap.size w (w2.setCell ⟨w.heap.size + 1, 0, none⟩ (.int .i64 0)) ∧ OwnPk (w2.setCell ⟨w.heap.size + 1, 0, none⟩ (.int .i64 0)) w.heap.size tc bv p) := by
    have s1 := bl.size
    have s2 := HW.out.1.size
    exact ⟨((Kept.refl w2 (fun k => k = w.heap.size + 1)).setCell ⟨w.heap.size + 1, 0, none⟩ (.int .i64 0) (fun _ => rfl)).heap F1 (by omega), pk_at (heap_setR (i := 0) (.int .i64 0) F2) rfl, (HW.out.1.trans (bl.mono HW.out.1.size)).trans (k3.below (by omega) (fun k e => by omega)), hpk.kept k3 (fun k e => by omega) (by omega)⟩
  have HE2 : Hid _ := e2
  clear e2 F1 F2 kf k3
  go_wp2_with (refine wpList_store_row rfl 39 _ _ rfl w.heap.size (pkL p tc bv).toArray rfl rfl 39 _ r1 q32 szp u1p ?_; rw [← HE2.out])
  refine leaves_cons (f := 41) (args := #[.pointer (some ⟨w.heap.size, 0, none⟩), .pointer (some ⟨w.heap.size + 1, 0, none⟩)]) (by simp) (by simp [go_sem]) ?_
  refine (readDef_idle _ _ _).mono ?_
  rintro e u' w3 ⟨rfl, rfl, h3⟩
  rw [h3]
  have hld1 := run_loadVar_row (P := Tryz.prog) _ w.heap.size 39 39 _ (0, 0) _ HF.out.1 Tryz.underlying39 rfl q32
  exact ⟨_, res2 Tryz.results14 _ _ _ _ _ _ rfl rfl hld1 (load_errno HF.out.2.1), tc, bv, rfl, HF.out.2.2.2, HF.out.2.2.1⟩
end Go.Proofs.YtldcbabgommghaaGreatDoor

/- EqPacket of packets with the same data: true. -/
namespace Go.Proofs.YtldcbabgommghaaGreatDoor
open Go.RowKit
set_option maxRecDepth 8000

/-- A load of cells amid a row, its guard saying yes. -/
theorem load_midG {P : Program} {ops : Array Oper} {rest : List Oper} {o : Oper} {a : Act} {w : World} {Q : Exit → Act → World → Prop} (hw : Region.wanted o (yielded ops a.tmps) = true) (ty : TypeId) (x : Operand) (ho : o.op = .load ty x)
    (b o' : Nat) (hx : a.eval x = .pointer (some ⟨b, o', none⟩)) (cs : List Value) (d : TypeDesc) (hc : w.rangeAt b o' cs) (hu : P.underlying ty = some d) (hd : d.isRow = true) (hi : (P.info? ty).map (·.size) = some cs.length)
    (h : wpList P ops Q rest (a.put o.dst (.agg cs.toArray)) w) : wpList P ops Q (o :: rest) a w :=
  BigFrame.wpList_want hw fun _ hK => wp_load_mid ty x ho b o' hx cs d hc hu hd hi (hK _ _ h)

theorem two_pk (w : World) (p : PkD) (tc tc' : List Value) (bv bv' : Value) : PkAt ((w.alloc (.cells (pkL p tc bv).toArray 39)).alloc (.cells (pkL p tc' bv').toArray 39)) w.heap.size p tc bv ∧ PkAt ((w.alloc (.cells (pkL p tc bv).toArray 39)).alloc (.cells (pkL p tc' bv').toArray 39)) (w.heap.size + 1) p tc' bv' := by
  unfold PkAt
  refine ⟨by rw [Below.heap_alloc _ _ _ (by simp)]; exact heap_alloc_new _ _, ?_⟩
  have := heap_alloc_new (w.alloc (.cells (pkL p tc bv).toArray 39)) (.cells (pkL p tc' bv').toArray 39)
  simpa using this

set_option maxHeartbeats 4000000 in
theorem eqPk_same (p : PkD) (tc tc' : List Value) (bv bv' : Value) (w : World) (hs : SeesPk w tc bv p) (hs' : SeesPk w tc' bv' p) :
    Calls Tryz.prog 15 #[.agg (pkL p tc bv).toArray, .agg (pkL p tc' bv').toArray] w fun r w' => r = .returned (.bool true) ∧ Below w.heap.size w w' := by
  obtain ⟨V, hV⟩ : ∃ V, V = (w.alloc (.cells (pkL p tc bv).toArray 39)).alloc (.cells (pkL p tc' bv').toArray 39) := ⟨_, rfl⟩
  have HV : Hid (Below w.heap.size w V ∧ PkAt V w.heap.size p tc bv ∧ PkAt V (w.heap.size + 1) p tc' bv') := by rw [hV]; exact ⟨two_alloc _ _ _, two_pk w p tc tc' bv bv'⟩
  have HS : Hid (SeesPk w tc bv p ∧ SeesPk w tc' bv' p) := ⟨hs, hs'⟩
  have hl := hs.tx.len
  have hl' := hs'.tx.len
  obtain ⟨s0, s1, s2, rfl⟩ := sees_form hs.bys
  obtain ⟨t0, t1, t2, rfl⟩ := sees_form hs'.bys
  have HA : Hid _ := hV
  have hgt : Tryz.prog.eqGuardType Tryz.prog.depth 27 = false := by kernel_rfl
  have hgc : Tryz.prog.eqGuardType Tryz.prog.depth 25 = false := by kernel_rfl
  have n1 := neqCn p.cb p.ct p.cb p.ct
  have n2 := neqCn p.lb p.lt p.lb p.lt
  have n3 := neqZxP p.ze p.zn p.ze p.zn
  have n4 := neqZxP p.pe p.pn p.pe p.pn
  rw [decide_eq_true (⟨rfl, rfl⟩ : p.cb = p.cb ∧ p.ct = p.ct)] at n1
  rw [decide_eq_true (⟨rfl, rfl⟩ : p.lb = p.lb ∧ p.lt = p.lt)] at n2
  rw [decide_eq_true (⟨rfl, rfl⟩ : p.ze = p.ze ∧ p.zn = p.zn)] at n3
  rw [decide_eq_true (⟨rfl, rfl⟩ : p.pe = p.pe ∧ p.pn = p.pn)] at n4
  have q16 : (Tryz.prog.info? 37).map (·.size) = some tc.length := by rw [hl]; exact txSz
  have q16' : (Tryz.prog.info? 37).map (·.size) = some tc'.length := by rw [hl']; exact txSz
  clear hV hs hs'
  have c0 : V.cell? ⟨w.heap.size, 0, none⟩ = some (.int .i8 p.kind) := pk_at HV.out.2.1 rfl
  have z0 : V.cell? ⟨w.heap.size + 1, 0, none⟩ = some (.int .i8 p.kind) := pk_at HV.out.2.2 rfl
  have c1 : V.cell? ⟨w.heap.size, 1, none⟩ = some (.int .u32 p.cb) := pk_at HV.out.2.1 rfl
  have z1 : V.cell? ⟨w.heap.size + 1, 1, none⟩ = some (.int .u32 p.cb) := pk_at HV.out.2.2 rfl
  have c2 : V.cell? ⟨w.heap.size, 2, none⟩ = some (.int .u32 p.ct) := pk_at HV.out.2.1 rfl
  have z2 : V.cell? ⟨w.heap.size + 1, 2, none⟩ = some (.int .u32 p.ct) := pk_at HV.out.2.2 rfl
  have c3 : V.cell? ⟨w.heap.size, 3, none⟩ = some (.int .u32 p.lb) := pk_at HV.out.2.1 rfl
  have z3 : V.cell? ⟨w.heap.size + 1, 3, none⟩ = some (.int .u32 p.lb) := pk_at HV.out.2.2 rfl
  have c4 : V.cell? ⟨w.heap.size, 4, none⟩ = some (.int .u32 p.lt) := pk_at HV.out.2.1 rfl
  have z4 : V.cell? ⟨w.heap.size + 1, 4, none⟩ = some (.int .u32 p.lt) := pk_at HV.out.2.2 rfl
  have c5 : V.cell? ⟨w.heap.size, 5, none⟩ = some (.int .i64 p.place) := pk_at HV.out.2.1 rfl
  have z5 : V.cell? ⟨w.heap.size + 1, 5, none⟩ = some (.int .i64 p.place) := pk_at HV.out.2.2 rfl
  have c6 : V.cell? ⟨w.heap.size, 6, none⟩ = some (.int .u32 p.ep) := pk_at HV.out.2.1 rfl
  have z6 : V.cell? ⟨w.heap.size + 1, 6, none⟩ = some (.int .u32 p.ep) := pk_at HV.out.2.2 rfl
  have c7 : V.cell? ⟨w.heap.size, 7, none⟩ = some (.int .u32 p.cur) := pk_at HV.out.2.1 rfl
  have z7 : V.cell? ⟨w.heap.size + 1, 7, none⟩ = some (.int .u32 p.cur) := pk_at HV.out.2.2 rfl
  have c8 : V.cell? ⟨w.heap.size, 8, none⟩ = some (.int .u32 p.ze) := pk_at HV.out.2.1 rfl
  have z8 : V.cell? ⟨w.heap.size + 1, 8, none⟩ = some (.int .u32 p.ze) := pk_at HV.out.2.2 rfl
  have c9 : V.cell? ⟨w.heap.size, 9, none⟩ = some (.int .u32 p.zn) := pk_at HV.out.2.1 rfl
  have z9 : V.cell? ⟨w.heap.size + 1, 9, none⟩ = some (.int .u32 p.zn) := pk_at HV.out.2.2 rfl
  have c10 : V.cell? ⟨w.heap.size, 10, none⟩ = some (.int .u32 p.pe) := pk_at HV.out.2.1 rfl
  have z10 : V.cell? ⟨w.heap.size + 1, 10, none⟩ = some (.int .u32 p.pe) := pk_at HV.out.2.2 rfl
  have c11 : V.cell? ⟨w.heap.size, 11, none⟩ = some (.int .u32 p.pn) := pk_at HV.out.2.1 rfl
  have z11 : V.cell? ⟨w.heap.size + 1, 11, none⟩ = some (.int .u32 p.pn) := pk_at HV.out.2.2 rfl
  have c12 : V.cell? ⟨w.heap.size, 12, none⟩ = some (.bool p.cnt) := pk_at HV.out.2.1 rfl
  have z12 : V.cell? ⟨w.heap.size + 1, 12, none⟩ = some (.bool p.cnt) := pk_at HV.out.2.2 rfl
  have c13 : V.cell? ⟨w.heap.size, 13, none⟩ = some (.bool p.fin) := pk_at HV.out.2.1 rfl
  have z13 : V.cell? ⟨w.heap.size + 1, 13, none⟩ = some (.bool p.fin) := pk_at HV.out.2.2 rfl
  have c31 := (HV.out.2.1.tail hl).2.2
  have z31 := (HV.out.2.2.tail hl').2.2
  have l14 := (HV.out.2.1.tail hl).1
  have m14 := (HV.out.2.2.tail hl').1
  go_enter Tryz.func15, Tryz.ntmps15
  go_upto_region 1 with fail
  rw [← HA.out]
  clear HA
  go_upto_region 3 with fail
  clear c0 z0 c1 z1 c2 z2 c3 z3 c4 z4 c5 z5 c6 z6 c7 z7 c8 z8 c9 z9 c10 z10 c11 z11 n1 n2 n3 n4
  obtain ⟨cn, hcn⟩ : ∃ x, p.cnt = x := ⟨_, rfl⟩
  obtain ⟨fi, hfi⟩ : ∃ x, p.fin = x := ⟨_, rfl⟩
  rw [hcn] at c12 z12
  rw [hfi] at c13 z13
  clear hcn hfi
  cases cn
  · cases fi
    · skip
      go_wp2_with (first | (refine load_midG (by kernel_rfl) 37 _ rfl w.heap.size 14 rfl tc _ l14 Tryz.underlying37 rfl q16 ?_) | (refine load_midG (by kernel_rfl) 37 _ rfl (w.heap.size + 1) 14 rfl tc' _ m14 Tryz.underlying37 rfl q16' ?_))
      refine (eqTxn_same tc tc' p.tx _ (HS.out.1.tx.below HV.out.1 (Nat.le_refl _)) (HS.out.2.tx.below HV.out.1 (Nat.le_refl _))).mono ?_
      rintro _ w1 ⟨rfl, b1⟩
      have H1 : Hid (Below w.heap.size w w1 ∧ PkAt w1 w.heap.size p tc (.slice s0 s1 s2) ∧ PkAt w1 (w.heap.size + 1) p tc' (.slice t0 t1 t2)) := ⟨HV.out.1.trans (b1.mono HV.out.1.size), HV.out.2.1.later b1 HV.out.2.1.lt, HV.out.2.2.later b1 HV.out.2.2.lt⟩
      clear b1 HV c12 z12 c13 z13 c31 z31 l14 m14
      have c30 := (H1.out.2.1.tail hl).2.1
      have z30 := (H1.out.2.2.tail hl').2.1
      go_wp2_with fail
      refine (eqBytes_any _ _ p.bys p.bys _ (HS.out.1.bys.below H1.out.1 (Nat.le_refl _)) (HS.out.2.bys.below H1.out.1 (Nat.le_refl _))).mono ?_
      rintro _ w2 ⟨rfl, n, hn⟩
      have H2 : Hid (Below w.heap.size w w2) := by rw [hn]; exact below_drewN H1.out.1 n
      rw [decide_eq_true (rfl : p.bys = p.bys)]
      clear hn H1 c30 z30
      go_wp2_with fail
      go_ret
      exact ⟨rfl, H2.out⟩
    · skip
      go_wp2_with (first | (refine load_midG (by kernel_rfl) 37 _ rfl w.heap.size 14 rfl tc _ l14 Tryz.underlying37 rfl q16 ?_) | (refine load_midG (by kernel_rfl) 37 _ rfl (w.heap.size + 1) 14 rfl tc' _ m14 Tryz.underlying37 rfl q16' ?_))
      refine (eqTxn_same tc tc' p.tx _ (HS.out.1.tx.below HV.out.1 (Nat.le_refl _)) (HS.out.2.tx.below HV.out.1 (Nat.le_refl _))).mono ?_
      rintro _ w1 ⟨rfl, b1⟩
      have H1 : Hid (Below w.heap.size w w1 ∧ PkAt w1 w.heap.size p tc (.slice s0 s1 s2) ∧ PkAt w1 (w.heap.size + 1) p tc' (.slice t0 t1 t2)) := ⟨HV.out.1.trans (b1.mono HV.out.1.size), HV.out.2.1.later b1 HV.out.2.1.lt, HV.out.2.2.later b1 HV.out.2.2.lt⟩
      clear b1 HV c12 z12 c13 z13 c31 z31 l14 m14
      have c30 := (H1.out.2.1.tail hl).2.1
      have z30 := (H1.out.2.2.tail hl').2.1
      go_wp2_with fail
      refine (eqBytes_any _ _ p.bys p.bys _ (HS.out.1.bys.below H1.out.1 (Nat.le_refl _)) (HS.out.2.bys.below H1.out.1 (Nat.le_refl _))).mono ?_
      rintro _ w2 ⟨rfl, n, hn⟩
      have H2 : Hid (Below w.heap.size w w2) := by rw [hn]; exact below_drewN H1.out.1 n
      rw [decide_eq_true (rfl : p.bys = p.bys)]
      clear hn H1 c30 z30
      go_wp2_with fail
      go_ret
      exact ⟨rfl, H2.out⟩
  · cases fi
    · skip
      go_wp2_with (first | (refine load_midG (by kernel_rfl) 37 _ rfl w.heap.size 14 rfl tc _ l14 Tryz.underlying37 rfl q16 ?_) | (refine load_midG (by kernel_rfl) 37 _ rfl (w.heap.size + 1) 14 rfl tc' _ m14 Tryz.underlying37 rfl q16' ?_))
      refine (eqTxn_same tc tc' p.tx _ (HS.out.1.tx.below HV.out.1 (Nat.le_refl _)) (HS.out.2.tx.below HV.out.1 (Nat.le_refl _))).mono ?_
      rintro _ w1 ⟨rfl, b1⟩
      have H1 : Hid (Below w.heap.size w w1 ∧ PkAt w1 w.heap.size p tc (.slice s0 s1 s2) ∧ PkAt w1 (w.heap.size + 1) p tc' (.slice t0 t1 t2)) := ⟨HV.out.1.trans (b1.mono HV.out.1.size), HV.out.2.1.later b1 HV.out.2.1.lt, HV.out.2.2.later b1 HV.out.2.2.lt⟩
      clear b1 HV c12 z12 c13 z13 c31 z31 l14 m14
      have c30 := (H1.out.2.1.tail hl).2.1
      have z30 := (H1.out.2.2.tail hl').2.1
      go_wp2_with fail
      refine (eqBytes_any _ _ p.bys p.bys _ (HS.out.1.bys.below H1.out.1 (Nat.le_refl _)) (HS.out.2.bys.below H1.out.1 (Nat.le_refl _))).mono ?_
      rintro _ w2 ⟨rfl, n, hn⟩
      have H2 : Hid (Below w.heap.size w w2) := by rw [hn]; exact below_drewN H1.out.1 n
      rw [decide_eq_true (rfl : p.bys = p.bys)]
      clear hn H1 c30 z30
      go_wp2_with fail
      go_ret
      exact ⟨rfl, H2.out⟩
    · skip
      go_wp2_with (first | (refine load_midG (by kernel_rfl) 37 _ rfl w.heap.size 14 rfl tc _ l14 Tryz.underlying37 rfl q16 ?_) | (refine load_midG (by kernel_rfl) 37 _ rfl (w.heap.size + 1) 14 rfl tc' _ m14 Tryz.underlying37 rfl q16' ?_))
      refine (eqTxn_same tc tc' p.tx _ (HS.out.1.tx.below HV.out.1 (Nat.le_refl _)) (HS.out.2.tx.below HV.out.1 (Nat.le_refl _))).mono ?_
      rintro _ w1 ⟨rfl, b1⟩
      have H1 : Hid (Below w.heap.size w w1 ∧ PkAt w1 w.heap.size p tc (.slice s0 s1 s2) ∧ PkAt w1 (w.heap.size + 1) p tc' (.slice t0 t1 t2)) := ⟨HV.out.1.trans (b1.mono HV.out.1.size), HV.out.2.1.later b1 HV.out.2.1.lt, HV.out.2.2.later b1 HV.out.2.2.lt⟩
      clear b1 HV c12 z12 c13 z13 c31 z31 l14 m14
      have c30 := (H1.out.2.1.tail hl).2.1
      have z30 := (H1.out.2.2.tail hl').2.1
      go_wp2_with fail
      refine (eqBytes_any _ _ p.bys p.bys _ (HS.out.1.bys.below H1.out.1 (Nat.le_refl _)) (HS.out.2.bys.below H1.out.1 (Nat.le_refl _))).mono ?_
      rintro _ w2 ⟨rfl, n, hn⟩
      have H2 : Hid (Below w.heap.size w w2) := by rw [hn]; exact below_drewN H1.out.1 n
      rw [decide_eq_true (rfl : p.bys = p.bys)]
      clear hn H1 c30 z30
      go_wp2_with fail
      go_ret
      exact ⟨rfl, H2.out⟩

end Go.Proofs.YtldcbabgommghaaGreatDoor

/- Rows of a list's own, whatever size its elements have: an append into its own room, or into a new row that leaves the old one as it was. -/
namespace Go.Proofs.YtldcbabgommghaaGreatDoor
open Go.RowKit
set_option maxRecDepth 8000

/-- One more element: in its own room, or in a new row, the old one left as it was. -/
theorem app_row {P : Program} {w : World} (base : Nat) (t ty e : TypeId) (i : TypeInfo) (zv : Value) (size bytes : Nat) (ht : P.underlying t = some (.slice e)) (hi : P.info? e = some i) (hz : i.zero = some zv)
    (hsize : i.size = size) (hby : i.bytes = bytes) (hzs : zv.cells.size = size) (hsz : 0 < size) (v : Value) (n : Nat) (xs : List Value) (ho : w.ownsRow base e size v n xs) (m : Nat) (news : List Value) (hn : news.length = size)
    (hm : w.heap[m]? = some (.cells news.toArray e (0, 0))) (h1 : ∀ u ∈ news, u.oneCell' = true) (hl : n ≤ 2000000000) (hb1 : bytes ≤ 1000) (hb : base ≤ w.heap.size) :
    ∃ v' w', (Builtin.append_ #[t, t] ty #[v, .slice (some ⟨m, 0, none⟩) 1 1]).run P w = .ok v' w' ∧ w'.ownsRow base e size v' (n + 1) (xs ++ news) ∧ w.grownBy w' v.ownBlock ∧
      ((∃ g cap, v = .slice (some ⟨g, 0, none⟩) n cap ∧ v' = .slice (some ⟨g, 0, none⟩) (n + 1) cap) ∨ (v'.ownBlock = some w.heap.size ∧ w.grownBy w' none)) := by
  have hnews : ∀ j u, news[j]? = some u → w.cell? ((⟨m, 0, none⟩ : Addr).add j) = some u := fun j u hj => by
    rw [Addr.add_lit, Nat.zero_add, cell_of_row w m j _ _ _ hm, ← Array.getElem?_toList]
    exact hj
  have hby2 : (n + 1) * bytes ≤ 140737488355328 := Nat.le_trans (Nat.mul_le_mul (show n + 1 ≤ 2000000001 by omega) hb1) (by decide)
  obtain ⟨v', w', hr, o1, o2, o3, o4⟩ := run_append_own_at (P := P) w base t ty e i zv size bytes ht hi hz hsize hby hzs hsz v n xs ho ⟨m, 0, none⟩ 1 1 news (by rw [hn, Nat.one_mul]) hnews h1 (by unfold maxLen; omega) hby2 hb
  refine ⟨v', w', hr, o1, o2, ?_⟩
  obtain ⟨hxl, ⟨rfl, h0⟩ | ⟨g, cap, cur, rfl, a2, a3, a4, a5, a6, a7⟩⟩ := ho
  · right
    rcases o4 with o4 | o4
    · obtain ⟨_, ⟨_, h1'⟩ | ⟨g, cap, cur, rfl, _⟩⟩ := o1
      · omega
      · simp [Value.ownBlock] at o4
    · exact ⟨o4, o2⟩
  · by_cases hroom : n + 1 ≤ cap
    · left
      have hfit : n * i.size + news.length ≤ cur.size := by
        have := Nat.mul_le_mul_right size hroom
        rw [Nat.add_mul, Nat.one_mul] at this
        rw [hsize, a6, hn]
        exact this
      have h2 := run_append_room (P := P) w t ty e i ht hi g n cap cur a3 ⟨m, 0, none⟩ 1 1 news (by rw [hn, hsize, Nat.one_mul]) hnews h1 hroom hfit
      rw [hr] at h2
      injection h2 with e1 e2
      exact ⟨g, cap, rfl, e1⟩
    · right
      have holds : ∀ j u, xs[j]? = some u → w.cell? ((⟨g, 0, none⟩ : Addr).add j) = some u := fun j u hj => by
        rw [Addr.add_lit, Nat.zero_add, cell_of_row w g j _ _ _ a3, ← Array.getElem?_toList]
        rw [← a7, List.getElem?_take] at hj
        split at hj
        · exact hj
        · cases hj
      have h2 := run_append_grow (P := P) w t ty e i zv ht hi hz ⟨g, 0, none⟩ n cap xs (by rw [hxl, hsize]) holds ⟨m, 0, none⟩ 1 1 news (by rw [hn, hsize, Nat.one_mul]) hnews (by omega) (by omega) (growslice_fits (by omega) (by rw [hby]; exact hby2))
      rw [hr] at h2
      injection h2 with e1 e2
      rw [e1, e2]
      exact ⟨rfl, rfl, rfl, rfl, by simp, fun k hk _ => heap_alloc_old w.drew _ hk⟩

end Go.Proofs.YtldcbabgommghaaGreatDoor
