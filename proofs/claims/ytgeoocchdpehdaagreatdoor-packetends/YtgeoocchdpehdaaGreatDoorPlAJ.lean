import Derived.Test.YtgeoocchdpehdaaGreatDoorPkQJ
namespace Go.Proofs.YtgeoocchdpehdaaGreatDoor
open Go.RowKit
set_option maxRecDepth 8000

def Fails (w : World) (g q : Nat) (w' : World) : Prop := ∃ v' xs f, IsR w' g v' xs f ∧ f ≠ 0 ∧ Kept w w' (fun k => k = g ∨ k = q)

theorem rdNum_short {n : Nat} {xs : List Int} (h : xs.length < n) : rdNum n xs 0 = ⟨0, xs, 10⟩ := by unfold rdNum; rw [if_neg (by simp), if_pos h]
theorem rdNum_ok {n : Nat} {xs : List Int} (h : ¬ xs.length < n) : rdNum n xs 0 = ⟨num (xs.take n), xs.drop n, 0⟩ := by unfold rdNum; rw [if_neg (by simp), if_neg h]
theorem rdNum_fault {n : Nat} {xs : List Int} {f : Int} (h : f ≠ 0) : rdNum n xs f = ⟨0, xs, f⟩ := by unfold rdNum; rw [if_pos h]
theorem rdBool_short {xs : List Int} (h : xs.length < 1) : rdBool xs 0 = ⟨0, xs, 10⟩ := by unfold rdBool; rw [if_neg (by simp), if_pos h]

set_option maxHeartbeats 400000 in
theorem getPair_sh (g : Nat) (v : Value) (xs : List Int) (w : World) (h : IsR w g v xs 0) (hb : Byts xs) (hl : xs.length < 8) :
    Calls Tryz.prog 62 #[.pointer (some ⟨g, 0, none⟩)] w fun e w' => ∃ a b : Int, e = .returned (.tuple #[.int .u32 a, .int .u32 b]) ∧ ∃ v' ys f, IsR w' g v' ys f ∧ f ≠ 0 ∧ (∀ k, v'.ownBlock = some k → v.ownBlock = some k) ∧ Kept w w' (· = g) := by
  have H : Hid (IsR w g v xs 0 ∧ Byts xs) := ⟨h, hb⟩
  clear h hb
  go_enter Tryz.func62, Tryz.ntmps62
  go_wp2_with fail
  refine (rUint32_any g v xs 0 w H.out.1 H.out.2).mono ?_
  rintro _ w1 ⟨rfl, v1, h1, h2, h3⟩
  obtain ⟨a, ha⟩ : ∃ a, a = (rdNum 4 xs 0).out := ⟨_, rfl⟩
  rw [← ha]
  have HB : Hid (Byts (rdNum 4 xs 0).rest ∧ (rdNum 4 (rdNum 4 xs 0).rest (rdNum 4 xs 0).fault).fault ≠ 0) := by
    by_cases h4 : xs.length < 4
    · rw [rdNum_short h4]
      exact ⟨H.out.2, by rw [rdNum_fault (by simp)]; simp⟩
    · rw [rdNum_ok h4]
      exact ⟨fun x hx => H.out.2 x (List.mem_of_mem_drop hx), by rw [rdNum_short (by simp; omega)]; simp⟩
  have H1 : Hid (IsR w1 g v1 (rdNum 4 xs 0).rest (rdNum 4 xs 0).fault ∧ (∀ k, v1.ownBlock = some k → v.ownBlock = some k) ∧ Kept w w1 (· = g)) := ⟨h1, h2, h3⟩
  clear h1 h2 h3 ha hl
  go_wp2_with fail
  refine (rUint32_any g v1 _ _ w1 H1.out.1 HB.out.1).mono ?_
  rintro _ w2 ⟨rfl, v2, h1, h2, h3⟩
  obtain ⟨b, hb⟩ : ∃ b, b = (rdNum 4 (rdNum 4 xs 0).rest (rdNum 4 xs 0).fault).out := ⟨_, rfl⟩
  rw [← hb]
  have HF : Hid (∃ v' ys f, IsR w2 g v' ys f ∧ f ≠ 0 ∧ (∀ k, v'.ownBlock = some k → v.ownBlock = some k) ∧ Kept w w2 (· = g)) := ⟨v2, _, _, h1, HB.out.2, fun k e => H1.out.2.1 k (h2 k e), H1.out.2.2.trans h3 (fun k _ e => e)⟩
  clear h1 h2 h3 hb HB H1 H
  go_wp2_with fail
  go_ret2
  exact ⟨a, b, rfl, HF.out⟩

section
variable (g q r : Nat) (v : Value) (d : PkD) (tc : List Value) (bv : Value) (xs : List Int) (w : World)

set_option maxHeartbeats 400000 in
theorem sh0 (h : IsR w g v xs 0) (hb : Byts xs) (hl : xs.length < 8) (hi : InPk w g q r tc bv d) (hgq : g ≠ q) (hv : ∀ k, v.ownBlock = some k → k ≠ q ∧ r < k) : Calls Tryz.prog 61 #[.pointer (some ⟨g, 0, none⟩), .pointer (some ⟨q, 0, none⟩)] w fun e w' => e = .returned (.tuple #[]) ∧ Fails w g q w' := by
  have H : Hid (IsR w g v xs 0 ∧ Byts xs ∧ InPk w g q r tc bv d ∧ g ≠ q ∧ ∀ k, v.ownBlock = some k → k ≠ q ∧ r < k) := ⟨h, hb, hi, hgq, hv⟩
  have HL : Hid (xs.length < 8) := hl
  clear h hb hi hgq hv hl
  go_enter Tryz.func61, Tryz.ntmps61
  go_wp2_with fail
  refine (getPair_sh g v xs w H.out.1 H.out.2.1 HL.out).mono ?_
  rintro _ w1 ⟨a0, a1, rfl, v1, ys, ft, h1, hf, h2, h3⟩
  have hrow : w1.heap[q]? = some (.cells (pkL d tc bv).toArray 39 (0, 0)) := h3.heap H.out.2.2.1.at_ (fun e => H.out.2.2.2.1 e.symm)
  have c1 : w1.cell? ⟨q, 1, none⟩ = some (.int .u32 d.cb) := pk_at hrow rfl
  have f1 := frozen_of_row w1 q 1 _ _ hrow
  have c2 : w1.cell? ⟨q, 2, none⟩ = some (.int .u32 d.ct) := pk_at hrow rfl
  have f2 := frozen_of_row w1 q 2 _ _ hrow
  have HF : Hid (Fails w g q ((w1.setCell ⟨q, 1, none⟩ (.int .u32 a0)).setCell ⟨q, 2, none⟩ (.int .u32 a1))) := by
    have k2 : Kept w1 ((w1.setCell ⟨q, 1, none⟩ (.int .u32 a0)).setCell ⟨q, 2, none⟩ (.int .u32 a1)) (fun k => k = q) := (((Kept.refl w1 (fun k => k = q)).setCell ⟨q, 1, none⟩ (.int .u32 a0) (fun _ => rfl)).setCell ⟨q, 2, none⟩ (.int .u32 a1) (fun _ => rfl))
    exact ⟨v1, _, _, IsR.aside h1 k2 H.out.2.2.2.1 (fun k e => (H.out.2.2.2.2 k (h2 k e)).1), hf, (h3.mono (fun k _ e => Or.inl e)).trans k2 (fun k _ e => .inr e)⟩
  clear h1 h2 h3 hrow H hf HL
  go_wp2_with fail
  go_end0
  exact ⟨rfl, HF.out⟩

set_option maxHeartbeats 400000 in
theorem sh1 (h : IsR w g v xs 0) (hb : Byts xs) (hl : xs.length < 8) (hi : InPk w g q r tc bv d) (hgq : g ≠ q) (hv : ∀ k, v.ownBlock = some k → k ≠ q ∧ r < k) : Calls Tryz.prog 65 #[.pointer (some ⟨g, 0, none⟩), .pointer (some ⟨q, 0, none⟩)] w fun e w' => e = .returned (.tuple #[]) ∧ Fails w g q w' := by
  have H : Hid (IsR w g v xs 0 ∧ Byts xs ∧ InPk w g q r tc bv d ∧ g ≠ q ∧ ∀ k, v.ownBlock = some k → k ≠ q ∧ r < k) := ⟨h, hb, hi, hgq, hv⟩
  have HL : Hid (xs.length < 8) := hl
  clear h hb hi hgq hv hl
  go_enter Tryz.func65, Tryz.ntmps65
  go_wp2_with fail
  refine (getPair_sh g v xs w H.out.1 H.out.2.1 HL.out).mono ?_
  rintro _ w1 ⟨a0, a1, rfl, v1, ys, ft, h1, hf, h2, h3⟩
  have hrow : w1.heap[q]? = some (.cells (pkL d tc bv).toArray 39 (0, 0)) := h3.heap H.out.2.2.1.at_ (fun e => H.out.2.2.2.1 e.symm)
  have c3 : w1.cell? ⟨q, 3, none⟩ = some (.int .u32 d.lb) := pk_at hrow rfl
  have f3 := frozen_of_row w1 q 3 _ _ hrow
  have c4 : w1.cell? ⟨q, 4, none⟩ = some (.int .u32 d.lt) := pk_at hrow rfl
  have f4 := frozen_of_row w1 q 4 _ _ hrow
  have HF : Hid (Fails w g q ((w1.setCell ⟨q, 3, none⟩ (.int .u32 a0)).setCell ⟨q, 4, none⟩ (.int .u32 a1))) := by
    have k2 : Kept w1 ((w1.setCell ⟨q, 3, none⟩ (.int .u32 a0)).setCell ⟨q, 4, none⟩ (.int .u32 a1)) (fun k => k = q) := (((Kept.refl w1 (fun k => k = q)).setCell ⟨q, 3, none⟩ (.int .u32 a0) (fun _ => rfl)).setCell ⟨q, 4, none⟩ (.int .u32 a1) (fun _ => rfl))
    exact ⟨v1, _, _, IsR.aside h1 k2 H.out.2.2.2.1 (fun k e => (H.out.2.2.2.2 k (h2 k e)).1), hf, (h3.mono (fun k _ e => Or.inl e)).trans k2 (fun k _ e => .inr e)⟩
  clear h1 h2 h3 hrow H hf HL
  go_wp2_with fail
  go_end0
  exact ⟨rfl, HF.out⟩

set_option maxHeartbeats 400000 in
theorem sh2 (h : IsR w g v xs 0) (hb : Byts xs) (hl : xs.length < 8) (hi : InPk w g q r tc bv d) (hgq : g ≠ q) (hv : ∀ k, v.ownBlock = some k → k ≠ q ∧ r < k) : Calls Tryz.prog 69 #[.pointer (some ⟨g, 0, none⟩), .pointer (some ⟨q, 0, none⟩)] w fun e w' => e = .returned (.tuple #[]) ∧ Fails w g q w' := by
  have H : Hid (IsR w g v xs 0 ∧ Byts xs ∧ InPk w g q r tc bv d ∧ g ≠ q ∧ ∀ k, v.ownBlock = some k → k ≠ q ∧ r < k) := ⟨h, hb, hi, hgq, hv⟩
  have HL : Hid (xs.length < 8) := hl
  clear h hb hi hgq hv hl
  go_enter Tryz.func69, Tryz.ntmps69
  go_wp2_with fail
  refine (rInt64_any g v xs 0 w H.out.1 H.out.2.1).mono ?_
  rintro _ w1 ⟨rfl, hr⟩
  rw [rdNum_short HL.out] at hr ⊢
  obtain ⟨v1, h1, h2, h3⟩ := hr
  have hf : (10 : Int) ≠ 0 := by decide
  have hrow : w1.heap[q]? = some (.cells (pkL d tc bv).toArray 39 (0, 0)) := h3.heap H.out.2.2.1.at_ (fun e => H.out.2.2.2.1 e.symm)
  have c5 : w1.cell? ⟨q, 5, none⟩ = some (.int .i64 d.place) := pk_at hrow rfl
  have f5 := frozen_of_row w1 q 5 _ _ hrow
  have HF : Hid (Fails w g q (w1.setCell ⟨q, 5, none⟩ (.int .i64 (wrap64 0)))) := by
    have k2 : Kept w1 (w1.setCell ⟨q, 5, none⟩ (.int .i64 (wrap64 0))) (fun k => k = q) := ((Kept.refl w1 (fun k => k = q)).setCell ⟨q, 5, none⟩ (.int .i64 (wrap64 0)) (fun _ => rfl))
    exact ⟨v1, _, _, IsR.aside h1 k2 H.out.2.2.2.1 (fun k e => (H.out.2.2.2.2 k (h2 k e)).1), hf, (h3.mono (fun k _ e => Or.inl e)).trans k2 (fun k _ e => .inr e)⟩
  clear h1 h2 h3 hrow H hf HL
  go_wp2_with fail
  go_end0
  exact ⟨rfl, HF.out⟩

set_option maxHeartbeats 400000 in
theorem sh3 (h : IsR w g v xs 0) (hb : Byts xs) (hl : xs.length < 4) (hi : InPk w g q r tc bv d) (hgq : g ≠ q) (hv : ∀ k, v.ownBlock = some k → k ≠ q ∧ r < k) : Calls Tryz.prog 73 #[.pointer (some ⟨g, 0, none⟩), .pointer (some ⟨q, 0, none⟩)] w fun e w' => e = .returned (.tuple #[]) ∧ Fails w g q w' := by
  have H : Hid (IsR w g v xs 0 ∧ Byts xs ∧ InPk w g q r tc bv d ∧ g ≠ q ∧ ∀ k, v.ownBlock = some k → k ≠ q ∧ r < k) := ⟨h, hb, hi, hgq, hv⟩
  have HL : Hid (xs.length < 4) := hl
  clear h hb hi hgq hv hl
  go_enter Tryz.func73, Tryz.ntmps73
  go_wp2_with fail
  refine (rUint32_any g v xs 0 w H.out.1 H.out.2.1).mono ?_
  rintro _ w1 ⟨rfl, hr⟩
  rw [rdNum_short HL.out] at hr ⊢
  obtain ⟨v1, h1, h2, h3⟩ := hr
  have hf : (10 : Int) ≠ 0 := by decide
  have hrow : w1.heap[q]? = some (.cells (pkL d tc bv).toArray 39 (0, 0)) := h3.heap H.out.2.2.1.at_ (fun e => H.out.2.2.2.1 e.symm)
  have c6 : w1.cell? ⟨q, 6, none⟩ = some (.int .u32 d.ep) := pk_at hrow rfl
  have f6 := frozen_of_row w1 q 6 _ _ hrow
  have HF : Hid (Fails w g q (w1.setCell ⟨q, 6, none⟩ (.int .u32 0))) := by
    have k2 : Kept w1 (w1.setCell ⟨q, 6, none⟩ (.int .u32 0)) (fun k => k = q) := ((Kept.refl w1 (fun k => k = q)).setCell ⟨q, 6, none⟩ (.int .u32 0) (fun _ => rfl))
    exact ⟨v1, _, _, IsR.aside h1 k2 H.out.2.2.2.1 (fun k e => (H.out.2.2.2.2 k (h2 k e)).1), hf, (h3.mono (fun k _ e => Or.inl e)).trans k2 (fun k _ e => .inr e)⟩
  clear h1 h2 h3 hrow H hf HL
  go_wp2_with fail
  go_end0
  exact ⟨rfl, HF.out⟩

set_option maxHeartbeats 400000 in
theorem sh4 (h : IsR w g v xs 0) (hb : Byts xs) (hl : xs.length < 4) (hi : InPk w g q r tc bv d) (hgq : g ≠ q) (hv : ∀ k, v.ownBlock = some k → k ≠ q ∧ r < k) : Calls Tryz.prog 76 #[.pointer (some ⟨g, 0, none⟩), .pointer (some ⟨q, 0, none⟩)] w fun e w' => e = .returned (.tuple #[]) ∧ Fails w g q w' := by
  have H : Hid (IsR w g v xs 0 ∧ Byts xs ∧ InPk w g q r tc bv d ∧ g ≠ q ∧ ∀ k, v.ownBlock = some k → k ≠ q ∧ r < k) := ⟨h, hb, hi, hgq, hv⟩
  have HL : Hid (xs.length < 4) := hl
  clear h hb hi hgq hv hl
  go_enter Tryz.func76, Tryz.ntmps76
  go_wp2_with fail
  refine (rUint32_any g v xs 0 w H.out.1 H.out.2.1).mono ?_
  rintro _ w1 ⟨rfl, hr⟩
  rw [rdNum_short HL.out] at hr ⊢
  obtain ⟨v1, h1, h2, h3⟩ := hr
  have hf : (10 : Int) ≠ 0 := by decide
  have hrow : w1.heap[q]? = some (.cells (pkL d tc bv).toArray 39 (0, 0)) := h3.heap H.out.2.2.1.at_ (fun e => H.out.2.2.2.1 e.symm)
  have c7 : w1.cell? ⟨q, 7, none⟩ = some (.int .u32 d.cur) := pk_at hrow rfl
  have f7 := frozen_of_row w1 q 7 _ _ hrow
  have HF : Hid (Fails w g q (w1.setCell ⟨q, 7, none⟩ (.int .u32 0))) := by
    have k2 : Kept w1 (w1.setCell ⟨q, 7, none⟩ (.int .u32 0)) (fun k => k = q) := ((Kept.refl w1 (fun k => k = q)).setCell ⟨q, 7, none⟩ (.int .u32 0) (fun _ => rfl))
    exact ⟨v1, _, _, IsR.aside h1 k2 H.out.2.2.2.1 (fun k e => (H.out.2.2.2.2 k (h2 k e)).1), hf, (h3.mono (fun k _ e => Or.inl e)).trans k2 (fun k _ e => .inr e)⟩
  clear h1 h2 h3 hrow H hf HL
  go_wp2_with fail
  go_end0
  exact ⟨rfl, HF.out⟩

set_option maxHeartbeats 400000 in
theorem sh5 (h : IsR w g v xs 0) (hb : Byts xs) (hl : xs.length < 8) (hi : InPk w g q r tc bv d) (hgq : g ≠ q) (hv : ∀ k, v.ownBlock = some k → k ≠ q ∧ r < k) : Calls Tryz.prog 79 #[.pointer (some ⟨g, 0, none⟩), .pointer (some ⟨q, 0, none⟩)] w fun e w' => e = .returned (.tuple #[]) ∧ Fails w g q w' := by
  have H : Hid (IsR w g v xs 0 ∧ Byts xs ∧ InPk w g q r tc bv d ∧ g ≠ q ∧ ∀ k, v.ownBlock = some k → k ≠ q ∧ r < k) := ⟨h, hb, hi, hgq, hv⟩
  have HL : Hid (xs.length < 8) := hl
  clear h hb hi hgq hv hl
  go_enter Tryz.func79, Tryz.ntmps79
  go_wp2_with fail
  refine (getPair_sh g v xs w H.out.1 H.out.2.1 HL.out).mono ?_
  rintro _ w1 ⟨a0, a1, rfl, v1, ys, ft, h1, hf, h2, h3⟩
  have hrow : w1.heap[q]? = some (.cells (pkL d tc bv).toArray 39 (0, 0)) := h3.heap H.out.2.2.1.at_ (fun e => H.out.2.2.2.1 e.symm)
  have c8 : w1.cell? ⟨q, 8, none⟩ = some (.int .u32 d.ze) := pk_at hrow rfl
  have f8 := frozen_of_row w1 q 8 _ _ hrow
  have c9 : w1.cell? ⟨q, 9, none⟩ = some (.int .u32 d.zn) := pk_at hrow rfl
  have f9 := frozen_of_row w1 q 9 _ _ hrow
  have HF : Hid (Fails w g q ((w1.setCell ⟨q, 8, none⟩ (.int .u32 a0)).setCell ⟨q, 9, none⟩ (.int .u32 a1))) := by
    have k2 : Kept w1 ((w1.setCell ⟨q, 8, none⟩ (.int .u32 a0)).setCell ⟨q, 9, none⟩ (.int .u32 a1)) (fun k => k = q) := (((Kept.refl w1 (fun k => k = q)).setCell ⟨q, 8, none⟩ (.int .u32 a0) (fun _ => rfl)).setCell ⟨q, 9, none⟩ (.int .u32 a1) (fun _ => rfl))
    exact ⟨v1, _, _, IsR.aside h1 k2 H.out.2.2.2.1 (fun k e => (H.out.2.2.2.2 k (h2 k e)).1), hf, (h3.mono (fun k _ e => Or.inl e)).trans k2 (fun k _ e => .inr e)⟩
  clear h1 h2 h3 hrow H hf HL
  go_wp2_with fail
  go_end0
  exact ⟨rfl, HF.out⟩

set_option maxHeartbeats 400000 in
theorem sh6 (h : IsR w g v xs 0) (hb : Byts xs) (hl : xs.length < 8) (hi : InPk w g q r tc bv d) (hgq : g ≠ q) (hv : ∀ k, v.ownBlock = some k → k ≠ q ∧ r < k) : Calls Tryz.prog 83 #[.pointer (some ⟨g, 0, none⟩), .pointer (some ⟨q, 0, none⟩)] w fun e w' => e = .returned (.tuple #[]) ∧ Fails w g q w' := by
  have H : Hid (IsR w g v xs 0 ∧ Byts xs ∧ InPk w g q r tc bv d ∧ g ≠ q ∧ ∀ k, v.ownBlock = some k → k ≠ q ∧ r < k) := ⟨h, hb, hi, hgq, hv⟩
  have HL : Hid (xs.length < 8) := hl
  clear h hb hi hgq hv hl
  go_enter Tryz.func83, Tryz.ntmps83
  go_wp2_with fail
  refine (getPair_sh g v xs w H.out.1 H.out.2.1 HL.out).mono ?_
  rintro _ w1 ⟨a0, a1, rfl, v1, ys, ft, h1, hf, h2, h3⟩
  have hrow : w1.heap[q]? = some (.cells (pkL d tc bv).toArray 39 (0, 0)) := h3.heap H.out.2.2.1.at_ (fun e => H.out.2.2.2.1 e.symm)
  have c10 : w1.cell? ⟨q, 10, none⟩ = some (.int .u32 d.pe) := pk_at hrow rfl
  have f10 := frozen_of_row w1 q 10 _ _ hrow
  have c11 : w1.cell? ⟨q, 11, none⟩ = some (.int .u32 d.pn) := pk_at hrow rfl
  have f11 := frozen_of_row w1 q 11 _ _ hrow
  have HF : Hid (Fails w g q ((w1.setCell ⟨q, 10, none⟩ (.int .u32 a0)).setCell ⟨q, 11, none⟩ (.int .u32 a1))) := by
    have k2 : Kept w1 ((w1.setCell ⟨q, 10, none⟩ (.int .u32 a0)).setCell ⟨q, 11, none⟩ (.int .u32 a1)) (fun k => k = q) := (((Kept.refl w1 (fun k => k = q)).setCell ⟨q, 10, none⟩ (.int .u32 a0) (fun _ => rfl)).setCell ⟨q, 11, none⟩ (.int .u32 a1) (fun _ => rfl))
    exact ⟨v1, _, _, IsR.aside h1 k2 H.out.2.2.2.1 (fun k e => (H.out.2.2.2.2 k (h2 k e)).1), hf, (h3.mono (fun k _ e => Or.inl e)).trans k2 (fun k _ e => .inr e)⟩
  clear h1 h2 h3 hrow H hf HL
  go_wp2_with fail
  go_end0
  exact ⟨rfl, HF.out⟩

set_option maxHeartbeats 400000 in
theorem sh7 (h : IsR w g v xs 0) (hb : Byts xs) (hl : xs.length < 1) (hi : InPk w g q r tc bv d) (hgq : g ≠ q) (hv : ∀ k, v.ownBlock = some k → k ≠ q ∧ r < k) : Calls Tryz.prog 87 #[.pointer (some ⟨g, 0, none⟩), .pointer (some ⟨q, 0, none⟩)] w fun e w' => e = .returned (.tuple #[]) ∧ Fails w g q w' := by
  have H : Hid (IsR w g v xs 0 ∧ Byts xs ∧ InPk w g q r tc bv d ∧ g ≠ q ∧ ∀ k, v.ownBlock = some k → k ≠ q ∧ r < k) := ⟨h, hb, hi, hgq, hv⟩
  have HL : Hid (xs.length < 1) := hl
  clear h hb hi hgq hv hl
  go_enter Tryz.func87, Tryz.ntmps87
  go_wp2_with fail
  refine (rBool_any g v xs 0 w H.out.1 H.out.2.1).mono ?_
  rintro _ w1 ⟨rfl, hr⟩
  rw [rdBool_short HL.out] at hr ⊢
  obtain ⟨v1, h1, h2, h3⟩ := hr
  have hf : (10 : Int) ≠ 0 := by decide
  have hrow : w1.heap[q]? = some (.cells (pkL d tc bv).toArray 39 (0, 0)) := h3.heap H.out.2.2.1.at_ (fun e => H.out.2.2.2.1 e.symm)
  have c12 : w1.cell? ⟨q, 12, none⟩ = some (.bool d.cnt) := pk_at hrow rfl
  have f12 := frozen_of_row w1 q 12 _ _ hrow
  have HF : Hid (Fails w g q (w1.setCell ⟨q, 12, none⟩ (.bool false))) := by
    have k2 : Kept w1 (w1.setCell ⟨q, 12, none⟩ (.bool false)) (fun k => k = q) := ((Kept.refl w1 (fun k => k = q)).setCell ⟨q, 12, none⟩ (.bool false) (fun _ => rfl))
    exact ⟨v1, _, _, IsR.aside h1 k2 H.out.2.2.2.1 (fun k e => (H.out.2.2.2.2 k (h2 k e)).1), hf, (h3.mono (fun k _ e => Or.inl e)).trans k2 (fun k _ e => .inr e)⟩
  clear h1 h2 h3 hrow H hf HL
  go_wp2_with fail
  go_end0
  exact ⟨rfl, HF.out⟩

set_option maxHeartbeats 400000 in
theorem sh8 (h : IsR w g v xs 0) (hb : Byts xs) (hl : xs.length < 1) (hi : InPk w g q r tc bv d) (hgq : g ≠ q) (hv : ∀ k, v.ownBlock = some k → k ≠ q ∧ r < k) : Calls Tryz.prog 90 #[.pointer (some ⟨g, 0, none⟩), .pointer (some ⟨q, 0, none⟩)] w fun e w' => e = .returned (.tuple #[]) ∧ Fails w g q w' := by
  have H : Hid (IsR w g v xs 0 ∧ Byts xs ∧ InPk w g q r tc bv d ∧ g ≠ q ∧ ∀ k, v.ownBlock = some k → k ≠ q ∧ r < k) := ⟨h, hb, hi, hgq, hv⟩
  have HL : Hid (xs.length < 1) := hl
  clear h hb hi hgq hv hl
  go_enter Tryz.func90, Tryz.ntmps90
  go_wp2_with fail
  refine (rBool_any g v xs 0 w H.out.1 H.out.2.1).mono ?_
  rintro _ w1 ⟨rfl, hr⟩
  rw [rdBool_short HL.out] at hr ⊢
  obtain ⟨v1, h1, h2, h3⟩ := hr
  have hf : (10 : Int) ≠ 0 := by decide
  have hrow : w1.heap[q]? = some (.cells (pkL d tc bv).toArray 39 (0, 0)) := h3.heap H.out.2.2.1.at_ (fun e => H.out.2.2.2.1 e.symm)
  have c13 : w1.cell? ⟨q, 13, none⟩ = some (.bool d.fin) := pk_at hrow rfl
  have f13 := frozen_of_row w1 q 13 _ _ hrow
  have HF : Hid (Fails w g q (w1.setCell ⟨q, 13, none⟩ (.bool false))) := by
    have k2 : Kept w1 (w1.setCell ⟨q, 13, none⟩ (.bool false)) (fun k => k = q) := ((Kept.refl w1 (fun k => k = q)).setCell ⟨q, 13, none⟩ (.bool false) (fun _ => rfl))
    exact ⟨v1, _, _, IsR.aside h1 k2 H.out.2.2.2.1 (fun k e => (H.out.2.2.2.2 k (h2 k e)).1), hf, (h3.mono (fun k _ e => Or.inl e)).trans k2 (fun k _ e => .inr e)⟩
  clear h1 h2 h3 hrow H hf HL
  go_wp2_with fail
  go_end0
  exact ⟨rfl, HF.out⟩

set_option maxHeartbeats 400000 in
theorem sh11 (h : IsR w g v xs 0) (hb : Byts xs) (hl : xs.length < 8) (hi : InPk w g q r tc bv d) (hgq : g ≠ q) (hv : ∀ k, v.ownBlock = some k → k ≠ q ∧ r < k) : Calls Tryz.prog 101 #[.pointer (some ⟨g, 0, none⟩), .pointer (some ⟨q, 0, none⟩)] w fun e w' => e = .returned (.tuple #[]) ∧ Fails w g q w' := by
  have H : Hid (IsR w g v xs 0 ∧ Byts xs ∧ InPk w g q r tc bv d ∧ g ≠ q ∧ ∀ k, v.ownBlock = some k → k ≠ q ∧ r < k) := ⟨h, hb, hi, hgq, hv⟩
  have HL : Hid (xs.length < 8) := hl
  clear h hb hi hgq hv hl
  go_enter Tryz.func101, Tryz.ntmps101
  go_wp2_with fail
  refine (rInt64_any g v xs 0 w H.out.1 H.out.2.1).mono ?_
  rintro _ w1 ⟨rfl, hr⟩
  rw [rdNum_short HL.out] at hr ⊢
  obtain ⟨v1, h1, h2, h3⟩ := hr
  have hf : (10 : Int) ≠ 0 := by decide
  have hrow : w1.heap[q]? = some (.cells (pkL d tc bv).toArray 39 (0, 0)) := h3.heap H.out.2.2.1.at_ (fun e => H.out.2.2.2.1 e.symm)
  have c31 : w1.cell? ⟨q, 31, none⟩ = some (.int .i64 d.ses) := (PkAt.tail (W := w1) hrow H.out.2.2.1.len).2.2
  have f31 := frozen_of_row w1 q 31 _ _ hrow
  have HF : Hid (Fails w g q (w1.setCell ⟨q, 31, none⟩ (.int .i64 (wrap64 0)))) := by
    have k2 : Kept w1 (w1.setCell ⟨q, 31, none⟩ (.int .i64 (wrap64 0))) (fun k => k = q) := ((Kept.refl w1 (fun k => k = q)).setCell ⟨q, 31, none⟩ (.int .i64 (wrap64 0)) (fun _ => rfl))
    exact ⟨v1, _, _, IsR.aside h1 k2 H.out.2.2.2.1 (fun k e => (H.out.2.2.2.2 k (h2 k e)).1), hf, (h3.mono (fun k _ e => Or.inl e)).trans k2 (fun k _ e => .inr e)⟩
  clear h1 h2 h3 hrow H hf HL
  go_wp2_with fail
  go_end0
  exact ⟨rfl, HF.out⟩

end
end Go.Proofs.YtgeoocchdpehdaaGreatDoor
