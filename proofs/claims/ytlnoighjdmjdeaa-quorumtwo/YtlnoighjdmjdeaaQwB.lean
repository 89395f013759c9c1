/- The document's Acks in memory; its NewAcks. -/
import Derived.Test.YtlnoighjdmjdeaaQwA
namespace Go.Proofs.Ytlnoighjdmjdeaa
open Go.RowKit Go.Shelf
set_option maxRecDepth 8000

/-- The document's Acks in memory, in blocks from B on. -/
structure Ra (w : World) (B q r n : Nat) (A : AcD) (bh ch bu cu : Nat) : Prop where
  row : w.heap[q]? = some (.cells (raRow r (.slice (some ⟨bh, 0, none⟩) n ch) (.slice (some ⟨bu, 0, none⟩) n cu)) 75 (0, 0))
  hs : ∃ f, w.rowIs bh 4 ch f ∧ ∀ i, i < n → f i = .bool (A.so.testBit i)
  us : ∃ f, w.rowIs bu 38 (cu * 2) f ∧ ∀ i, i < n → f (i * 2) = .int .u32 (A.e i) ∧ f (i * 2 + 1) = .int .u32 (A.m i)
  nh : n ≤ ch
  nu : n ≤ cu
  mh : ch ≤ maxLen
  mu : cu ≤ maxLen
  Bq : B ≤ q
  Bh : B ≤ bh
  Bu : B ≤ bu
theorem Ra.lt {w : World} {B q r n : Nat} {A : AcD} {bh ch bu cu : Nat} (h : Ra w B q r n A bh ch bu cu) : q < w.heap.size ∧ bh < w.heap.size ∧ bu < w.heap.size := by
  obtain ⟨f, h1, _⟩ := h.hs
  obtain ⟨g, h2, _⟩ := h.us
  exact ⟨lt_of_block h.row, h1.lt, h2.lt⟩
theorem Ra.kept {w w' : World} {S : Nat → Prop} {B q r n : Nat} {A : AcD} {bh ch bu cu : Nat} (h : Ra w B q r n A bh ch bu cu) (hk : Kept w w' S) (hS : ∀ k, B ≤ k → ¬ S k) : Ra w' B q r n A bh ch bu cu := by
  obtain ⟨f, ⟨c1, h1, h1'⟩, h2⟩ := h.hs
  obtain ⟨g, ⟨c2, h3, h3'⟩, h4⟩ := h.us
  exact ⟨hk.heap h.row (hS q h.Bq), ⟨f, ⟨c1, hk.heap h1 (hS bh h.Bh), h1'⟩, h2⟩, ⟨g, ⟨c2, hk.heap h3 (hS bu h.Bu), h3'⟩, h4⟩, h.nh, h.nu, h.mh, h.mu, h.Bq, h.Bh, h.Bu⟩
theorem Ra.below {w w' : World} {B q r n : Nat} {A : AcD} {bh ch bu cu : Nat} (h : Ra w B q r n A bh ch bu cu) (hb : Below w.heap.size w w') : Ra w' B q r n A bh ch bu cu := by
  obtain ⟨f, ⟨c1, h1, h1'⟩, h2⟩ := h.hs
  obtain ⟨g, ⟨c2, h3, h3'⟩, h4⟩ := h.us
  exact ⟨keepH hb h.row, ⟨f, ⟨c1, keepH hb h1, h1'⟩, h2⟩, ⟨g, ⟨c2, keepH hb h3, h3'⟩, h4⟩, h.nh, h.nu, h.mh, h.mu, h.Bq, h.Bh, h.Bu⟩
theorem Ra.c0 {w : World} {B q r n : Nat} {A : AcD} {bh ch bu cu : Nat} (h : Ra w B q r n A bh ch bu cu) : w.cell? ⟨q, 0, none⟩ = some (.pointer (some ⟨r, 0, none⟩)) := cell_of_row _ _ 0 _ _ _ h.row
theorem Ra.c1 {w : World} {B q r n : Nat} {A : AcD} {bh ch bu cu : Nat} (h : Ra w B q r n A bh ch bu cu) : w.cell? ⟨q, 1, none⟩ = some (.slice (some ⟨bh, 0, none⟩) n ch) := cell_of_row _ _ 1 _ _ _ h.row
theorem Ra.c2 {w : World} {B q r n : Nat} {A : AcD} {bh ch bu cu : Nat} (h : Ra w B q r n A bh ch bu cu) : w.cell? ⟨q, 2, none⟩ = some (.slice (some ⟨bu, 0, none⟩) n cu) := cell_of_row _ _ 2 _ _ _ h.row
theorem Ra.ch {w : World} {B q r n : Nat} {A : AcD} {bh ch bu cu : Nat} (h : Ra w B q r n A bh ch bu cu) {i : Nat} (hi : i < n) : w.cell? ⟨bh, i, none⟩ = some (.bool (A.so.testBit i)) := by
  obtain ⟨f, h1, h2⟩ := h.hs
  rw [← h2 i hi]
  exact h1.cell (by have := h.nh; omega)
theorem Ra.ce {w : World} {B q r n : Nat} {A : AcD} {bh ch bu cu : Nat} (h : Ra w B q r n A bh ch bu cu) {i : Nat} (hi : i < n) : w.cell? ⟨bu, i * 2, none⟩ = some (.int .u32 (A.e i)) := by
  obtain ⟨f, h1, h2⟩ := h.us
  rw [← (h2 i hi).1]
  exact h1.cell (by have := h.nu; omega)
theorem Ra.cm {w : World} {B q r n : Nat} {A : AcD} {bh ch bu cu : Nat} (h : Ra w B q r n A bh ch bu cu) {i : Nat} (hi : i < n) : w.cell? ⟨bu, i * 2 + 1, none⟩ = some (.int .u32 (A.m i)) := by
  obtain ⟨f, h1, h2⟩ := h.us
  rw [← (h2 i hi).2]
  exact h1.cell (by have := h.nu; omega)
theorem Ra.ne {w : World} {B q r n : Nat} {A : AcD} {bh ch bu cu : Nat} (h : Ra w B q r n A bh ch bu cu) : q ≠ bh ∧ q ≠ bu ∧ bh ≠ bu := by
  obtain ⟨f, ⟨c1, h1, _⟩, _⟩ := h.hs
  obtain ⟨g, ⟨c2, h2, _⟩, _⟩ := h.us
  have h0 := h.row
  have t1 : 75 ≠ 4 := by decide
  have t2 : 75 ≠ 38 := by decide
  have t3 : 4 ≠ 38 := by decide
  refine ⟨fun e => ?_, fun e => ?_, fun e => ?_⟩
  · rw [e, h1] at h0
    simp at h0
  · rw [e, h2] at h0
    simp at h0
  · rw [e, h2] at h1
    simp at h1

/-- Its two lists, out of lists of its own. -/
theorem Nk.done {w wr : World} {r n : Nat} {vh vu : Value} (h : Nk w wr r n vh vu) (hn : 1 ≤ n) : ∃ bh ch bu cu, Ra wr w.heap.size w.heap.size r n ac0 bh ch bu cu := by
  obtain ⟨row, oh, ou, be⟩ := h
  obtain ⟨_, ⟨_, z⟩ | ⟨bh, ch, c1, rfl, a2, a3, a4, a5, a6, a7⟩⟩ := oh
  · omega
  obtain ⟨_, ⟨_, z⟩ | ⟨bu, cu, c2, rfl, b2, b3, b4, b5, b6, b7⟩⟩ := ou
  · omega
  have e1 : ∀ i, i < n → c1[i]? = some (.bool false) := fun i hi => by
    have : (c1.toList.take (n * 1))[i]? = some (.bool false) := by rw [a7, List.getElem?_replicate, if_pos hi]
    rw [List.getElem?_take_of_lt (by omega)] at this
    rw [Array.getElem?_toList] at this; exact this
  have e2 : ∀ i, i < n * 2 → c2[i]? = some (.int .u32 0) := fun i hi => by
    have : (c2.toList.take (n * 2))[i]? = some (.int .u32 0) := by rw [b7, List.getElem?_replicate, if_pos hi]
    rw [List.getElem?_take_of_lt (by omega)] at this
    rw [Array.getElem?_toList] at this; exact this
  refine ⟨bh, ch, bu, cu, row, ⟨fun i => c1.getD i undef, ⟨c1, a3, by omega, fun j hj => ?_⟩, fun i hi => ?_⟩, ⟨fun i => c2.getD i undef, ⟨c2, b3, by omega, fun j hj => ?_⟩, fun i hi => ?_⟩, a4, b4, a5, b5, Nat.le_refl _, by omega, by omega⟩
  · show c1[j]? = some (c1.getD j undef)
    rw [Array.getD_eq_getD_getElem?, Array.getElem?_eq_getElem (show j < c1.size by omega)]; rfl
  · simp [Array.getD_eq_getD_getElem?, e1 i hi, ac0]
  · show c2[j]? = some (c2.getD j undef)
    rw [Array.getD_eq_getD_getElem?, Array.getElem?_eq_getElem (show j < c2.size by omega)]; rfl
  · simp [Array.getD_eq_getD_getElem?, e2 (i * 2) (by omega), e2 (i * 2 + 1) (by omega), ac0]
theorem Nk.start (w : World) (r : Nat) : Nk w (w.alloc (.cells (raRow r (.slice none 0 0) (.slice none 0 0)) 75)) r 0 (.slice none 0 0) (.slice none 0 0) :=
  ⟨heap_alloc_new _ _, World.ownsRow_nil _ _ _ _, World.ownsRow_nil _ _ _ _, one_alloc w _⟩

/-- At the operation: append, where its run is known. -/
theorem app_runQ {P : Program} {w : World} {ops : Array Oper} {rest : List Oper} {o : Oper} {a : Act} {Q : Exit → Act → World → Prop} (hgd : o.guard = none) (s x : Operand) (t : TypeId)
    (ho : o.op = .call { callee := .builtin .append, args := #[s, x], argTypes := #[t, t] }) (v u : Value) (hs : a.eval s = v) (hx : a.eval x = u) {v' : Value} {w' : World}
    (hr : (Builtin.append_ #[t, t] o.type #[v, u]).run P w = .ok v' w') (h : wpList P ops Q rest (a.put o.dst v') w') : wpList P ops Q (o :: rest) a w := by
  refine wpList_plain hgd fun K hK => ?_
  unfold Oper.wp execOp
  simp only [ho, resolve, invoke, builtin, Sem.run_bind, Sem.run_pure, Result.andThen_ok, List.map_toArray, List.map_cons, List.map_nil, hs, hx, hr]
  exact hK _ _ h

theorem refNewAcks {w : World} {r : Nat} {ws gs : List Int} (h : IsDs w r ws gs) (ok : NewOk ws gs) : Calls Try.prog 15 #[.pointer (some ⟨r, 0, none⟩)] w fun e w' => e = .returned (.pointer (some ⟨w.heap.size, 0, none⟩)) ∧ (∃ bh ch bu cu, Ra w' w.heap.size w.heap.size r ws.length ac0 bh ch bu cu) ∧ Below w.heap.size w w' := by
  have HI : Hid (IsDs w r ws gs) := h
  have HO : Hid (NewOk ws gs) := ok
  have HS : Hid (Nk w (w.alloc (.cells (raRow r (.slice none 0 0) (.slice none 0 0)) 75)) r 0 (.slice none 0 0) (.slice none 0 0)) := Nk.start w r
  have l7 := ok.l7
  have l1 := ok.l1
  have hz := h.lt
  clear h ok
  obtain ⟨n, hn⟩ : ∃ n, n = ws.length := ⟨_, rfl⟩
  have HN : Hid (n = ws.length) := hn
  rw [← hn] at l7 l1 ⊢
  clear hn
  go_enter Try.func15, Try.ntmps15
  go_wp2
  go_loopw [4] (fun vi wr => ∃ (k : Nat) (vh vu : Value), k ≤ n ∧ vi = .int .i64 (k : Int) ∧ Hid (Nk w wr r k vh vu)) (fun vi _ => n - (intOf vi).toNat)
  case atStart => exact ⟨0, _, _, by omega, rfl, HS.out⟩
  case round =>
    obtain ⟨k, vh, vu, hk, rfl, HK⟩ := hrel
    have HZ : Hid (Calls Try.prog 14 #[.pointer (some ⟨r, 0, none⟩)] wr fun e w' => e = .returned (.int .i64 n) ∧ w' = wr) := by
      have := refSize20 (HI.out.below HK.out.be) HO.out
      rw [← HN.out] at this
      exact this
    by_cases hkn : k < n
    · have hi0 : (0 : Int) ≤ (k : Int) := by omega
      have hin : (k : Int) < (n : Int) := by omega
      obtain ⟨a1, n1, c1, w1, hrun1, x1, f1, z1, a2, n2, c2, w2, hrun2, x2, x3, f2, z2, HX⟩ := HK.out.step (show k ≤ 100 by omega)
      have y1 : wr.cell? ⟨w.heap.size, 1, none⟩ = some vh := cell_of_row _ _ 1 _ _ _ HK.out.row
      have hzr := lt_of_block HK.out.row
      obtain ⟨ah, sh, eh⟩ := rowSq HK.out.oh
      obtain ⟨au, su, eu⟩ := rowSq HK.out.ou
      rw [eh] at y1 x1
      rw [eu] at x2 x3
      have HR1 : Hid _ := hrun1
      have HR2 : Hid _ := hrun2
      clear hrun1 hrun2 HS HK
      rw [eh] at HR1
      rw [eu] at HR2
      clear eh eu vh vu
      go_wp2_with fail
      refine Calls.mono HZ.out ?_
      rintro e w0 ⟨rfl, hw0⟩
      rw [hw0]
      clear hw0 w0 HZ
      go_wp2_with (first | (at_builtin; refine app_runQ rfl _ _ 72 rfl (.slice ah k sh) (.slice (some ⟨wr.heap.size, 0, none⟩) 1 1) rfl rfl (HR1.out _) ?_) | (at_builtin; refine app_runQ rfl _ _ 73 rfl (.slice au k su) (.slice (some ⟨w1.heap.size, 0, none⟩) 1 1) rfl rfl (HR2.out _) ?_))
      go_roundw
      case rel => exact ⟨k + 1, _, _, by omega, by simp, HX⟩
      case measure => simp [intOf]; omega
    · obtain rfl : k = n := by omega
      obtain ⟨bh, ch, bu, cu, HRa⟩ : ∃ bh ch bu cu, Hid (Ra wr w.heap.size w.heap.size r k ac0 bh ch bu cu) := HK.out.done l1
      have HB : Hid (Below w.heap.size w wr) := HK.out.be
      clear HK HS
      go_wp2_with fail
      refine Calls.mono HZ.out ?_
      rintro e w0 ⟨rfl, hw0⟩
      rw [hw0]
      clear hw0 w0 HZ
      go_wp2
      all_goals (go_ret; exact ⟨rfl, ⟨_, _, _, _, HRa.out⟩, HB.out⟩)

end Go.Proofs.Ytlnoighjdmjdeaa
