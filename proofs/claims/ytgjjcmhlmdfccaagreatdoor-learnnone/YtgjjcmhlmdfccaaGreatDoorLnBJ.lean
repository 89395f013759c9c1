/- Package learn: a nil Learner and a plain one; the small functions of the statements of layer 17. -/
import Derived.Test.YtgjjcmhlmdfccaaGreatDoorStorJ
import Derived.Test.YtgjjcmhlmdfccaaGreatDoorZxJ
import Derived.Laws.Rows
import Derived.Laws.Tables
import Derived.Deep.MidRow
namespace Go.Proofs.YtgjjcmhlmdfccaaGreatDoor
open Go.RowKit
set_option maxRecDepth 8000
set_option linter.unusedSimpArgs false

/-- A Learner's six cells. -/
abbrev lnR (ep : Int) (hi nx ba tx : Value) (dn : Bool) : Array Value := #[.int .u32 ep, hi, nx, ba, tx, .bool dn]

/-- A Learner in memory. -/
def LnAt (w : World) (p : Nat) (ep : Int) (hi nx ba tx : Value) (dn : Bool) : Prop := w.heap[p]? = some (.cells (lnR ep hi nx ba tx dn) 49 (0, 0))

/-- The cells of a Brought that tells nothing. -/
abbrev brZ : Array Value := #[.int .u32 0, .bool false, .slice none 0 0, .int .u32 0, .int .u32 0, .slice none 0 0]

/-- Such a Learner is none: nil, or one that New did not make. -/
def NoLn (w : World) (v : Value) : Prop := v = .pointer none ∨ ∃ p ep hi ba tx dn, v = .pointer (some ⟨p, 0, none⟩) ∧ LnAt w p ep hi .nilFunc ba tx dn

theorem NoLn.later {w w' : World} {v : Value} (h : NoLn w v) (hb : Below w.heap.size w w') : NoLn w' v := by
  rcases h with h | ⟨p, ep, hi, ba, tx, dn, h1, h2⟩
  · exact .inl h
  · exact .inr ⟨p, ep, hi, ba, tx, dn, h1, (hb.block p (lt_of_block h2)).trans h2⟩

theorem noneL_no {w : World} {v : Value} (h : NoLn w v) : Calls Tryz.prog 15 #[v] w fun e w' => e = .returned (.bool true) ∧ w' = w := by
  rcases h with rfl | ⟨p, ep, hi, ba, tx, dn, rfl, h2⟩
  · go_enter Tryz.func15, Tryz.ntmps15
    go_wp2
    all_goals (go_ret; exact ⟨rfl, rfl⟩)
  · have c := cell_of_row _ _ 2 _ _ _ h2
    have hl := lt_of_block h2
    simp at c
    have hnil : ∀ (w : World), (binOp BinOp.eql 44 .nilFunc .nilFunc).run Tryz.prog w = .ok (.bool true) w := fun _ => by kernel_rfl
    clear h2
    go_enter Tryz.func15, Tryz.ntmps15
    go_wp2
    all_goals (go_ret; exact ⟨rfl, rfl⟩)

theorem noneL_yes {w : World} {p : Nat} {ep : Int} {hi ba tx : Value} {dn : Bool} {f : Nat} {a b : Array Value} (h : LnAt w p ep hi (.func (.func f) a b) ba tx dn) : Calls Tryz.prog 15 #[.pointer (some ⟨p, 0, none⟩)] w fun e w' => e = .returned (.bool false) ∧ w' = w := by
  have c := cell_of_row _ _ 2 _ _ _ h
  have hl := lt_of_block h
  simp at c
  have hnil : ∀ (w : World), (binOp BinOp.eql 44 (.func (.func f) a b) .nilFunc).run Tryz.prog w = .ok (.bool false) w := fun _ => by kernel_rfl
  clear h
  go_enter Tryz.func15, Tryz.ntmps15
  go_wp2
  all_goals (go_ret; exact ⟨rfl, rfl⟩)

set_option maxHeartbeats 1000000 in
theorem take_none {w : World} {v : Value} (h : NoLn w v) (cs : Array Value) : Calls Tryz.prog 6 #[v, .agg cs] w fun e w' => e = .returned (.tuple #[.bool false, .int .i64 1]) ∧ Below w.heap.size w w' := by
  have HN : Hid (∀ W, Below w.heap.size w W → Calls Tryz.prog 15 #[v] W fun e w' => e = .returned (.bool true) ∧ w' = W) := fun W hW => noneL_no (h.later hW)
  have HB : Hid (Below w.heap.size w (w.alloc (.cells cs 39))) := one_alloc _ _
  obtain ⟨po, rfl⟩ : ∃ po, v = .pointer po := by
    rcases h with rfl | ⟨p, _, _, _, _, _, rfl, _⟩
    · exact ⟨_, rfl⟩
    · exact ⟨_, rfl⟩
  clear h
  go_enter Tryz.func6, Tryz.ntmps6
  go_wp2_with fail
  go_at_call 15
  refine (HN.out _ HB.out).mono ?_
  rintro e w' ⟨rfl, rfl⟩
  go_wp2
  go_ret2
  exact ⟨rfl, HB.out⟩

theorem coSz : (Tryz.prog.info? 25).map (·.size) = some 2 := by kernel_rfl
theorem zxSz : (Tryz.prog.info? 27).map (·.size) = some 2 := by kernel_rfl
theorem txSzL : (Tryz.prog.info? 37).map (·.size) = some 16 := by kernel_rfl
theorem brSz : (Tryz.prog.info? 54).map (·.size) = some 6 := by kernel_rfl
theorem pkSz9 : (Tryz.prog.info? 39).map (·.size) = some 32 := by kernel_rfl

theorem conn_any (w : World) : Calls Tryz.prog 25 #[] w fun e w' => e = .returned (.agg #[.int .u32 1, .int .u32 1]) ∧ Below w.heap.size w w' := by
  have HB : Hid (Below w.heap.size w (w.alloc (.cells #[.int .u32 1, .int .u32 1] 25))) := one_alloc _ _
  go_enter Tryz.func25, Tryz.ntmps25
  go_wp2
  exact bodyPost_ret (results_cell_row Tryz.results25 _ _ _ _ _ _ _ rfl (heap_alloc_new _ _) Tryz.underlying25 rfl coSz) rfl ⟨rfl, HB.out⟩

/-- The transaction (1, 1) of the statements. -/
abbrev fiC : Array Value := #[.int .u32 1, .int .u32 1, .int .i8 0, .int .u32 0, .int .i64 0, .int .i8 7, .string ⟨#[]⟩, .slice none 0 0, .slice none 0 0, .int .i32 0, .bool false, .bool false, .int .i64 0, .int .i32 5, .slice none 0 0, .slice none 0 0]

theorem first_any (w : World) : Calls Tryz.prog 13 #[] w fun e w' => e = .returned (.agg fiC) ∧ Below w.heap.size w w' := by
  have HB : Hid (Below w.heap.size w (w.alloc (.cells fiC 37))) := one_alloc _ _
  go_enter Tryz.func13, Tryz.ntmps13
  go_wp2
  exact bodyPost_ret (results_cell_row Tryz.results13 _ _ _ _ _ _ _ rfl (heap_alloc_new _ _) Tryz.underlying37 rfl txSzL) rfl ⟨rfl, HB.out⟩
end Go.Proofs.YtgjjcmhlmdfccaaGreatDoor

/- The statements' put: a packet with numbers. -/
namespace Go.Proofs.YtgjjcmhlmdfccaaGreatDoor
open Go.RowKit
set_option maxRecDepth 8000
set_option linter.unusedSimpArgs false

/-- The cells of a packet that says nothing. -/
abbrev pk0 : Array Value := #[.int .i8 0, .int .u32 0, .int .u32 0, .int .u32 0, .int .u32 0, .int .i64 0, .int .u32 0, .int .u32 0, .int .u32 0, .int .u32 0, .int .u32 0, .int .u32 0, .bool false, .bool false, .int .u32 0, .int .u32 0, .int .i8 0, .int .u32 0, .int .i64 0, .int .i8 0, .string ⟨#[]⟩, .slice none 0 0, .slice none 0 0, .int .i32 0, .bool false, .bool false, .int .i64 0, .int .i32 0, .slice none 0 0, .slice none 0 0, .slice none 0 0, .int .i64 0]

/-- Two cells of a row are written. -/
theorem set2 {W : World} {b i : Nat} {cs : Array Value} {t : TypeId} (u v : Value) (h : W.heap[b]? = some (.cells cs t (0, 0))) : ((W.setCell ⟨b, i, none⟩ u).setCell ⟨b, i + 1, none⟩ v).heap[b]? = some (.cells ((cs.setIfInBounds i u).setIfInBounds (i + 1) v) t (0, 0)) ∧ Kept W ((W.setCell ⟨b, i, none⟩ u).setCell ⟨b, i + 1, none⟩ v) (· = b) :=
  ⟨heap_setR v (heap_setR u h), ((Kept.refl W (· = b)).setCell ⟨b, i, none⟩ u (fun _ => rfl)).setCell ⟨b, i + 1, none⟩ v (fun _ => rfl)⟩

set_option maxHeartbeats 1000000 in
theorem put_any (cs : Array Value) (h32 : cs.size = 32) (hone : ∀ v ∈ cs, v.oneCell' = true) (w : World) : Calls Tryz.prog 12 #[.agg cs] w fun e w' => e = .returned (.agg ((((cs.setIfInBounds 1 (.int .u32 1)).setIfInBounds 2 (.int .u32 1)).setIfInBounds 3 (.int .u32 1)).setIfInBounds 4 (.int .u32 1))) ∧ Below w.heap.size w w' := by
  obtain ⟨V, hV⟩ : ∃ V, V = (w.alloc (.cells cs 39)).alloc (.cells pk0 39) := ⟨_, rfl⟩
  have hb : Below w.heap.size w V := by rw [hV]; exact two_alloc _ _ _
  have r0 : V.heap[w.heap.size]? = some (.cells cs 39 (0, 0)) := by rw [hV, Below.heap_alloc _ _ _ (by simp)]; exact heap_alloc_new _ _
  have r1 : V.heap[w.heap.size + 1]? = some (.cells pk0 39 (0, 0)) := by rw [hV]; have := heap_alloc_new (w.alloc (.cells cs 39)) (.cells pk0 39 (0, 0)); simpa using this
  have HV : Hid (V = (w.alloc (.cells cs 39)).alloc (.cells pk0 39)) := hV
  have H0 : Hid (Below w.heap.size w V ∧ V.heap[w.heap.size]? = some (.cells cs 39 (0, 0)) ∧ V.heap[w.heap.size + 1]? = some (.cells pk0 39 (0, 0))) := ⟨hb, r0, r1⟩
  have HC : Hid (∀ W, Calls Tryz.prog 25 #[] W fun e w' => e = .returned (.agg #[.int .u32 1, .int .u32 1]) ∧ Below W.heap.size W w') := conn_any
  clear hV hb r0 r1
  go_enter Tryz.func12, Tryz.ntmps12
  go_wp2_with fail
  go_at_call 25
  rw [← HV.out]
  refine (HC.out V).mono ?_
  rintro e w1 ⟨rfl, b1⟩
  have q0 := (b1.block _ (lt_of_block H0.out.2.1)).trans H0.out.2.1
  have q1 := (b1.block _ (lt_of_block H0.out.2.2)).trans H0.out.2.2
  have c1 : ∃ u, w1.cell? ⟨w.heap.size, 1, none⟩ = some u := ⟨cs[1], by rw [cell_of_row _ _ _ _ _ _ q0]; exact Array.getElem?_eq_getElem _⟩
  have c2 : ∃ u, w1.cell? ⟨w.heap.size, 2, none⟩ = some u := ⟨cs[2], by rw [cell_of_row _ _ _ _ _ _ q0]; exact Array.getElem?_eq_getElem _⟩
  obtain ⟨u1, c1⟩ := c1
  obtain ⟨u2, c2⟩ := c2
  have f1 := frozen_of_row _ _ 1 _ _ q0
  have f2 := frozen_of_row _ _ 2 _ _ q0
  obtain ⟨s0, k0⟩ := set2 (i := 1) (.int .u32 1) (.int .u32 1) q0
  have H1 : Hid (Below w.heap.size w ((w1.setCell ⟨w.heap.size, 1, none⟩ (.int .u32 1)).setCell ⟨w.heap.size, 2, none⟩ (.int .u32 1)) ∧ ((w1.setCell ⟨w.heap.size, 1, none⟩ (.int .u32 1)).setCell ⟨w.heap.size, 2, none⟩ (.int .u32 1)).heap[w.heap.size]? = some (.cells ((cs.setIfInBounds 1 (.int .u32 1)).setIfInBounds 2 (.int .u32 1)) 39 (0, 0)) ∧ ((w1.setCell ⟨w.heap.size, 1, none⟩ (.int .u32 1)).setCell ⟨w.heap.size, 2, none⟩ (.int .u32 1)).heap[w.heap.size + 1]? = some (.cells pk0 39 (0, 0))) :=
    ⟨(H0.out.1.trans (b1.mono H0.out.1.size)).trans (k0.below (by have := H0.out.1.size; have := b1.size; omega) (fun k e => by omega)), s0, k0.heap q1 (by omega)⟩
  clear s0 k0 q0 q1 b1 H0 HV
  go_wp2_with fail
  go_at_call 25
  generalize (w1.setCell ⟨w.heap.size, 1, none⟩ (.int .u32 1)).setCell ⟨w.heap.size, 2, none⟩ (.int .u32 1) = w2 at *
  obtain ⟨ds, hds⟩ : ∃ ds, ds = (cs.setIfInBounds 1 (.int .u32 1)).setIfInBounds 2 (.int .u32 1) := ⟨_, rfl⟩
  have hd32 : ds.size = 32 := by rw [hds]; simp [h32]
  have hdo : ∀ v ∈ (ds.setIfInBounds 3 (.int .u32 1)).setIfInBounds 4 (.int .u32 1), v.oneCell' = true := by
    rw [hds]
    intro v hv
    rcases Array.mem_or_eq_of_mem_setIfInBounds hv with hv | rfl
    · rcases Array.mem_or_eq_of_mem_setIfInBounds hv with hv | rfl
      · rcases Array.mem_or_eq_of_mem_setIfInBounds hv with hv | rfl
        · rcases Array.mem_or_eq_of_mem_setIfInBounds hv with hv | rfl
          · exact hone v hv
          · rfl
        · rfl
      · rfl
    · rfl
  have HD : Hid (ds = (cs.setIfInBounds 1 (.int .u32 1)).setIfInBounds 2 (.int .u32 1)) := hds
  rw [← hds] at H1
  clear hds c1 c2 f1 f2
  refine (HC.out w2).mono ?_
  rintro e w3 ⟨rfl, b3⟩
  have q0 := (b3.block _ (lt_of_block H1.out.2.1)).trans H1.out.2.1
  have q1 := (b3.block _ (lt_of_block H1.out.2.2)).trans H1.out.2.2
  obtain ⟨u3, c3⟩ : ∃ u, w3.cell? ⟨w.heap.size, 3, none⟩ = some u := ⟨ds[3], by rw [cell_of_row _ _ _ _ _ _ q0]; exact Array.getElem?_eq_getElem _⟩
  obtain ⟨u4, c4⟩ : ∃ u, w3.cell? ⟨w.heap.size, 4, none⟩ = some u := ⟨ds[4], by rw [cell_of_row _ _ _ _ _ _ q0]; exact Array.getElem?_eq_getElem _⟩
  have f3 := frozen_of_row _ _ 3 _ _ q0
  have f4 := frozen_of_row _ _ 4 _ _ q0
  obtain ⟨s0, k0⟩ := set2 (i := 3) (.int .u32 1) (.int .u32 1) q0
  have H2 : Hid (Below w.heap.size w ((w3.setCell ⟨w.heap.size, 3, none⟩ (.int .u32 1)).setCell ⟨w.heap.size, 4, none⟩ (.int .u32 1))) := (H1.out.1.trans (b3.mono H1.out.1.size)).trans (k0.below (by have := H1.out.1.size; have := b3.size; omega) (fun k e => by omega))
  have t1 := k0.heap q1 (by omega)
  obtain ⟨es, hes⟩ : ∃ es, es = (ds.setIfInBounds 3 (.int .u32 1)).setIfInBounds 4 (.int .u32 1) := ⟨_, rfl⟩
  have HS : Hid (es = (ds.setIfInBounds 3 (.int .u32 1)).setIfInBounds 4 (.int .u32 1)) := hes
  have he32 : es.size = 32 := by rw [hes]; simp [hd32]
  rw [show 3 + 1 = 4 from rfl, ← hes] at s0
  rw [← hes] at hdo
  have hones : es.all (·.oneCell') = true := by rw [Array.all_eq_true_iff_forall_mem]; exact hdo
  have qs : (Tryz.prog.info? 39).map (·.size) = some es.size := by rw [he32]; exact pkSz9
  have hsz : pk0.size = es.size := by rw [he32]; rfl
  have v1 := setRow_heap _ (w.heap.size + 1) _ es _ _ t1
  have H3 : Hid (Below w.heap.size w (((w3.setCell ⟨w.heap.size, 3, none⟩ (.int .u32 1)).setCell ⟨w.heap.size, 4, none⟩ (.int .u32 1)).setRow (w.heap.size + 1) es)) := H2.out.trans (Kept.below (S := fun k => k = w.heap.size + 1) ⟨rfl, rfl, rfl, by simp, fun k _ hn => setRow_other _ _ _ _ hn⟩ H2.out.size (fun k e => by omega))
  clear hes k0 q0 q1 b3 H1 hdo
  go_wp2_with (first
    | (refine wpList_load_row rfl 39 _ rfl w.heap.size rfl 39 _ (0, 0) _ s0 Tryz.underlying39 rfl qs ?_)
    | (refine wpList_store_row rfl 39 _ _ rfl (w.heap.size + 1) es rfl rfl 39 _ t1 qs hsz hones ?_))
  exact bodyPost_ret (results_cell_row Tryz.results12 _ _ _ _ _ _ _ rfl v1 Tryz.underlying39 rfl qs) rfl ⟨by rw [HS.out, HD.out], H3.out⟩
end Go.Proofs.YtgjjcmhlmdfccaaGreatDoor
