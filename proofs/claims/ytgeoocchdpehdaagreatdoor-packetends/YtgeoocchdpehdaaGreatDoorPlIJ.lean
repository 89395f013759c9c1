import Derived.Test.YtgeoocchdpehdaaGreatDoorPlAJ
import Derived.Test.YtgeoocchdpehdaaGreatDoorPkQJ
namespace Go.Proofs.YtgeoocchdpehdaaGreatDoor
open Go.RowKit
set_option maxRecDepth 8000

section
variable (g q r : Nat) (v : Value) (d : PkD) (tc : List Value) (bv : Value) (xs : List Int) (w : World)

set_option maxHeartbeats 400000 in
theorem sh10 (h : IsR w g v xs 0) (hb : Byts xs) (hl : rdBuf 4096 xs 0 = ([], ⟨0, xs, 10⟩)) (hi : InPk w g q r tc bv d) (hgq : g ≠ q) (hv : ∀ k, v.ownBlock = some k → k ≠ q ∧ r < k) : Calls Tryz.prog 97 #[.pointer (some ⟨g, 0, none⟩), .pointer (some ⟨q, 0, none⟩)] w fun e w' => e = .returned (.tuple #[]) ∧ Fails w g q w' := by
  have H : Hid (IsR w g v xs 0 ∧ Byts xs ∧ InPk w g q r tc bv d ∧ g ≠ q ∧ ∀ k, v.ownBlock = some k → k ≠ q ∧ r < k) := ⟨h, hb, hi, hgq, hv⟩
  have HL : Hid (rdBuf 4096 xs 0 = ([], ⟨0, xs, 10⟩)) := hl
  clear h hb hi hgq hv hl
  go_enter Tryz.func97, Tryz.ntmps97
  go_wp2_with fail
  refine (rBuffer_any g v xs 0 w 4096 H.out.1 H.out.2.1).mono ?_
  rintro _ w1 ⟨u, rfl, hc, hr⟩
  rw [HL.out] at hc hr
  obtain ⟨_, ⟨uo, rfl⟩, _⟩ := hc
  obtain ⟨v1, h1, h2, h3⟩ := hr
  have hf : (10 : Int) ≠ 0 := by decide
  have hrow : w1.heap[q]? = some (.cells (pkL d tc bv).toArray 39 (0, 0)) := h3.heap H.out.2.2.1.at_ (fun e => H.out.2.2.2.1 e.symm)
  have c30 : w1.cell? ⟨q, 30, none⟩ = some bv := (PkAt.tail (W := w1) hrow H.out.2.2.1.len).2.1
  have f30 := frozen_of_row w1 q 30 _ _ hrow
  obtain ⟨b0, b1, b2, rfl⟩ := sees_form H.out.2.2.1.bys
  have HF : Hid (Fails w g q (w1.setCell ⟨q, 30, none⟩ (.slice uo 0 0))) := by
    have k2 : Kept w1 (w1.setCell ⟨q, 30, none⟩ (.slice uo 0 0)) (fun k => k = q) := ((Kept.refl w1 (fun k => k = q)).setCell ⟨q, 30, none⟩ _ (fun _ => rfl))
    exact ⟨v1, _, _, IsR.aside h1 k2 H.out.2.2.2.1 (fun k e => (H.out.2.2.2.2 k (h2 k e)).1), hf, (h3.mono (fun k _ e => Or.inl e)).trans k2 (fun k _ e => .inr e)⟩
  clear h1 h2 h3 hrow H hf HL
  go_wp2_with fail
  go_end0
  exact ⟨rfl, HF.out⟩

theorem buf_short {ys zs : List Int} {most : Int} (hl : ys.length ≤ 2147483647) (hm : (ys.length : Int) ≤ most) (hp : zs <+: be4 ys.length ++ ys) (hs : zs.length < 4 + ys.length) : rdBuf most zs 0 = ([], ⟨0, zs, 10⟩) := by
  unfold rdBuf
  rw [if_neg (by simp)]
  by_cases h4 : zs.length < 4
  · rw [if_pos h4]
  · rw [if_neg h4]
    have ha : ahead zs = ys.length := by
      obtain ⟨t, ht⟩ := hp
      have e : zs.take 4 = (be4 ys.length ++ ys).take 4 := by rw [← ht, List.take_append_of_le_length (by omega)]
      have := bk_ahead (b := ys) (n := ys.length) hl
      unfold ahead at this ⊢
      rw [e]; exact this
    rw [ha, if_neg (by omega), if_pos (by omega)]

end
end Go.Proofs.YtgeoocchdpehdaaGreatDoor

namespace Go.Proofs.YtgeoocchdpehdaaGreatDoor
open Go.RowKit
set_option maxRecDepth 8000

structure GF (w W : World) (g : Nat) (v : Value) (xs : List Int) (f : Int) (z : Nat) : Prop where
  r : IsR W g v xs f
  q : W.heap[z]? = some (.cells (rq0 0 ⟨#[]⟩ 0 0) 35 (0, 0))
  l : W.heap[w.heap.size]? = some (.cells #[.int .i8 8, .int .u16 0] 132 (0, 0))
  o : W.heap[w.heap.size + 1]? = some (.cells (rq0 0 ⟨#[]⟩ 0 0) 35 (0, 0))
  nam : Nam W
  ng : 1 < g
  zlt : w.heap.size + 1 < z
  glt : g < w.heap.size
  vlt : xs ≠ [] → ∀ k, v.ownBlock = some k → k < w.heap.size
  kept : Kept w W (· = g)

theorem GF.read {w W W' : World} {g : Nat} {v : Value} {xs : List Int} {z : Nat} {f f' n : Int} (h : GF w W g v xs f z) (hr : ReadsTo W g v ⟨n, xs, f'⟩ W') : ∃ v', GF w W' g v' xs f' z := by
  obtain ⟨v', h1, h2, h3⟩ := hr
  have hz := h.zlt
  have hg := h.glt
  exact ⟨v', h1, h3.heap h.q (by omega), h3.heap h.l (by omega), h3.heap h.o (by omega), h.nam.kept h3 (fun k hk e => by have := h.ng; omega), h.ng, h.zlt, h.glt, fun hx k hk => h.vlt hx k (h2 k hk), h.kept.trans h3 (fun _ _ h => h)⟩

theorem GF.later {w W W' : World} {g : Nat} {v : Value} {xs : List Int} {z : Nat} {f : Int} (h : GF w W g v xs f z) (hb : Below W.heap.size W W') : GF w W' g v xs f z := by
  have hk := Below.kept hb
  have hs := h.kept.size
  have hg := h.glt
  have hz := lt_of_block h.q
  have hl := lt_of_block h.l
  have ho := lt_of_block h.o
  exact ⟨isR_keep h.r hk (by omega) (fun hx k hk' => by have := h.vlt hx k hk'; omega), hk.heap h.q (by omega), hk.heap h.l (by omega), hk.heap h.o (by omega), h.nam.below hb h.nam.lt, h.ng, h.zlt, h.glt, h.vlt, h.kept.trans hk (fun k hk' e => by omega)⟩

set_option maxHeartbeats 2000000 in
theorem get_fault (g : Nat) (v : Value) (xs : List Int) (f : Int) (w : World) (h : IsR w g v xs f) (hf : f ≠ 0) (hb : Byts xs) (hn : Nam w) (hg : 1 < g) (hvl : xs ≠ [] → ∀ k, v.ownBlock = some k → k < w.heap.size) :
    Calls Tryz.prog 127 #[lay 8 0, .pointer (some ⟨g, 0, none⟩)] w fun e w' => e = .returned (.agg (rq0 0 ⟨#[]⟩ 0 0)) ∧ (∃ v', IsR w' g v' xs f) ∧ Kept w w' (· = g) := by
  have a1 : bits .and .u16 0 1 = 0 := by decide
  have a2 : bits .and .u16 0 2 = 0 := by decide
  have a3 : bits .and .u16 0 4 = 0 := by decide
  have a4 : bits .and .u16 0 8 = 0 := by decide
  have a5 : bits .and .u16 0 16 = 0 := by decide
  have a6 : bits .and .u16 0 32 = 0 := by decide
  have a7 : bits .and .u16 0 64 = 0 := by decide
  have a8 : bits .and .u16 0 128 = 0 := by decide
  have a9 : bits .and .u16 0 256 = 0 := by decide
  have a10 : bits .and .u16 0 512 = 0 := by decide
  have hN : nms 8 0 0 = 0 := by decide
  have hI : IntKind.i8.wrap 0 = 0 := by decide
  have hrd : rdNum 1 xs f = ⟨0, xs, f⟩ := by unfold rdNum; rw [if_pos hf]
  have HL : Hid (IsR w g v xs f ∧ Nam w ∧ 1 < g ∧ Byts xs ∧ (xs ≠ [] → ∀ k, v.ownBlock = some k → k < w.heap.size) ∧ rdNum 1 xs f = ⟨0, xs, f⟩ ∧ f ≠ 0) := ⟨h, hn, hg, hb, hvl, hrd, hf⟩
  clear h hn hg hb hvl hrd hf
  go_enter Tryz.func127, Tryz.ntmps127
  go_wp2_with fail
  have HR0 : Hid (IsR ((w.alloc (.cells #[.int .i8 8, .int .u16 0] 132)).alloc (.cells (rq0 0 ⟨#[]⟩ 0 0) 35)) g v xs f) := HL.out.1.kept (((Kept.refl w (fun _ => False)).alloc _).alloc _) (fun h => h) (fun _ _ h => h)
  have hgl : g < w.heap.size := lt_of_block HL.out.1.1
  refine (rInt8_any g v xs f _ HR0.out HL.out.2.2.2.1).mono ?_
  rintro e w1 ⟨rfl, hr⟩
  rw [HL.out.2.2.2.2.2.1] at hr ⊢
  simp only [hI]
  obtain ⟨v1, hr1, hr2, hr3⟩ := hr
  have HG1 : Hid (GF w (w1.alloc (.cells (rq0 0 ⟨#[]⟩ 0 0) 35)) g v1 xs f w1.heap.size) := by
    have hs := hr3.size
    simp at hs
    have hl1 : w1.heap[w.heap.size]? = some (.cells #[.int .i8 8, .int .u16 0] 132 (0, 0)) := hr3.heap (by rw [Below.heap_alloc _ _ _ (by simp)]; exact heap_alloc_new _ _) (by omega)
    have ho1 : w1.heap[w.heap.size + 1]? = some (.cells (rq0 0 ⟨#[]⟩ 0 0) 35 (0, 0)) := hr3.heap (by have := heap_alloc_new (w.alloc (.cells #[.int .i8 8, .int .u16 0] 132)) (.cells (rq0 0 ⟨#[]⟩ 0 0) 35 (0, 0)); simpa using this) (by omega)
    have hkw : Kept w w1 (· = g) := (((Kept.refl w (· = g)).alloc _).alloc _).trans hr3 (fun _ _ h => h)
    have hka := (Kept.refl w1 (fun _ => False)).alloc (.cells (rq0 0 ⟨#[]⟩ 0 0) 35)
    exact ⟨hr1.kept hka (fun h => h) (fun _ _ h => h), heap_alloc_new _ _, hka.heap hl1 (fun h => h), hka.heap ho1 (fun h => h), (HL.out.2.1.kept hkw (fun k hk e => by have := HL.out.2.2.1; omega)).kept hka (fun _ _ h => h), HL.out.2.2.1, by omega, hgl, fun hx k hk => HL.out.2.2.2.2.1 hx k (hr2 k hk), hkw.alloc _⟩
  clear hr1 hr2 hr3 HR0 hgl
  have l0 : (w1.alloc (.cells (rq0 0 ⟨#[]⟩ 0 0) 35)).cell? ⟨w.heap.size, 0, none⟩ = some (.int .i8 8) := by rw [cell_of_row _ _ _ _ _ _ HG1.out.l]; rfl
  have l1 : (w1.alloc (.cells (rq0 0 ⟨#[]⟩ 0 0) 35)).cell? ⟨w.heap.size, 1, none⟩ = some (.int .u16 0) := by rw [cell_of_row _ _ _ _ _ _ HG1.out.l]; rfl
  have c0 : (w1.alloc (.cells (rq0 0 ⟨#[]⟩ 0 0) 35)).cell? ⟨w1.heap.size, 0, none⟩ = some (.int .i8 0) := by rw [cell_of_row _ _ _ _ _ _ HG1.out.q]; rfl
  go_wp2_with fail
  refine (names_any 8 0 0 _ HG1.out.nam (by omega)).mono ?_
  rintro e w2 ⟨rfl, b2⟩
  rw [hN]
  have HG2 : Hid (GF w w2 g v1 xs f w1.heap.size) := HG1.out.later b2
  clear b2 HG1 l0 l1 c0
  go_wp2_with fail
  refine (rFail_any g v1 xs f w2 40 HG2.out.r).mono ?_
  rintro e w6 ⟨rfl, hr⟩
  rw [if_neg HL.out.2.2.2.2.2.2] at hr
  obtain ⟨v6, hg6⟩ := HG2.out.read hr
  have c0 : w6.cell? ⟨w1.heap.size, 0, none⟩ = some (.int .i8 0) := by rw [cell_of_row w6 _ 0 _ _ _ hg6.q]; rfl
  have c1 : w6.cell? ⟨w1.heap.size, 1, none⟩ = some (.string ⟨#[]⟩) := by rw [cell_of_row w6 _ 1 _ _ _ hg6.q]; rfl
  have c2 : w6.cell? ⟨w1.heap.size, 2, none⟩ = some (.slice none 0 0) := by rw [cell_of_row w6 _ 2 _ _ _ hg6.q]; rfl
  have c3 : w6.cell? ⟨w1.heap.size, 3, none⟩ = some (.slice none 0 0) := by rw [cell_of_row w6 _ 3 _ _ _ hg6.q]; rfl
  have c4 : w6.cell? ⟨w1.heap.size, 4, none⟩ = some (.int .i32 0) := by rw [cell_of_row w6 _ 4 _ _ _ hg6.q]; rfl
  have c5 : w6.cell? ⟨w1.heap.size, 5, none⟩ = some (.bool false) := by rw [cell_of_row w6 _ 5 _ _ _ hg6.q]; rfl
  have c6 : w6.cell? ⟨w1.heap.size, 6, none⟩ = some (.bool false) := by rw [cell_of_row w6 _ 6 _ _ _ hg6.q]; rfl
  have c7 : w6.cell? ⟨w1.heap.size, 7, none⟩ = some (.int .i64 0) := by rw [cell_of_row w6 _ 7 _ _ _ hg6.q]; rfl
  have c8 : w6.cell? ⟨w1.heap.size, 8, none⟩ = some (.int .i32 0) := by rw [cell_of_row w6 _ 8 _ _ _ hg6.q]; rfl
  have c9 : w6.cell? ⟨w1.heap.size, 9, none⟩ = some (.slice none 0 0) := by rw [cell_of_row w6 _ 9 _ _ _ hg6.q]; rfl
  have c10 : w6.cell? ⟨w1.heap.size, 10, none⟩ = some (.slice none 0 0) := by rw [cell_of_row w6 _ 10 _ _ _ hg6.q]; rfl
  have hne : w1.heap.size ≠ w.heap.size + 1 := by have := hg6.zlt; omega
  have hne' : w.heap.size + 1 ≠ w1.heap.size := fun e => hne e.symm
  have o0 : w6.cell? ⟨w.heap.size + 1, 0, none⟩ = some (.int .i8 0) := by rw [cell_of_row w6 _ 0 _ _ _ hg6.o]; rfl
  have o1 : w6.cell? ⟨w.heap.size + 1, 1, none⟩ = some (.string ⟨#[]⟩) := by rw [cell_of_row w6 _ 1 _ _ _ hg6.o]; rfl
  have o2 : w6.cell? ⟨w.heap.size + 1, 2, none⟩ = some (.slice none 0 0) := by rw [cell_of_row w6 _ 2 _ _ _ hg6.o]; rfl
  have o3 : w6.cell? ⟨w.heap.size + 1, 3, none⟩ = some (.slice none 0 0) := by rw [cell_of_row w6 _ 3 _ _ _ hg6.o]; rfl
  have o4 : w6.cell? ⟨w.heap.size + 1, 4, none⟩ = some (.int .i32 0) := by rw [cell_of_row w6 _ 4 _ _ _ hg6.o]; rfl
  have o5 : w6.cell? ⟨w.heap.size + 1, 5, none⟩ = some (.bool false) := by rw [cell_of_row w6 _ 5 _ _ _ hg6.o]; rfl
  have o6 : w6.cell? ⟨w.heap.size + 1, 6, none⟩ = some (.bool false) := by rw [cell_of_row w6 _ 6 _ _ _ hg6.o]; rfl
  have o7 : w6.cell? ⟨w.heap.size + 1, 7, none⟩ = some (.int .i64 0) := by rw [cell_of_row w6 _ 7 _ _ _ hg6.o]; rfl
  have o8 : w6.cell? ⟨w.heap.size + 1, 8, none⟩ = some (.int .i32 0) := by rw [cell_of_row w6 _ 8 _ _ _ hg6.o]; rfl
  have o9 : w6.cell? ⟨w.heap.size + 1, 9, none⟩ = some (.slice none 0 0) := by rw [cell_of_row w6 _ 9 _ _ _ hg6.o]; rfl
  have o10 : w6.cell? ⟨w.heap.size + 1, 10, none⟩ = some (.slice none 0 0) := by rw [cell_of_row w6 _ 10 _ _ _ hg6.o]; rfl
  have p0 : w6.frozen? ⟨w.heap.size + 1, 0, none⟩ = false := frozen_of_row w6 _ 0 _ _ hg6.o
  have p1 : w6.frozen? ⟨w.heap.size + 1, 1, none⟩ = false := frozen_of_row w6 _ 1 _ _ hg6.o
  have p2 : w6.frozen? ⟨w.heap.size + 1, 2, none⟩ = false := frozen_of_row w6 _ 2 _ _ hg6.o
  have p3 : w6.frozen? ⟨w.heap.size + 1, 3, none⟩ = false := frozen_of_row w6 _ 3 _ _ hg6.o
  have p4 : w6.frozen? ⟨w.heap.size + 1, 4, none⟩ = false := frozen_of_row w6 _ 4 _ _ hg6.o
  have p5 : w6.frozen? ⟨w.heap.size + 1, 5, none⟩ = false := frozen_of_row w6 _ 5 _ _ hg6.o
  have p6 : w6.frozen? ⟨w.heap.size + 1, 6, none⟩ = false := frozen_of_row w6 _ 6 _ _ hg6.o
  have p7 : w6.frozen? ⟨w.heap.size + 1, 7, none⟩ = false := frozen_of_row w6 _ 7 _ _ hg6.o
  have p8 : w6.frozen? ⟨w.heap.size + 1, 8, none⟩ = false := frozen_of_row w6 _ 8 _ _ hg6.o
  have p9 : w6.frozen? ⟨w.heap.size + 1, 9, none⟩ = false := frozen_of_row w6 _ 9 _ _ hg6.o
  have p10 : w6.frozen? ⟨w.heap.size + 1, 10, none⟩ = false := frozen_of_row w6 _ 10 _ _ hg6.o
  have HG9 : Hid (GF w w6 g v6 xs f w1.heap.size) := hg6
  clear hr hg6 HG2
  go_wp2_with fail
  obtain ⟨hrow, hk⟩ := stored11 (.int .i8 0) (.string ⟨#[]⟩) (.slice none 0 0) (.slice none 0 0) (.int .i32 0) (.bool false) (.bool false) (.int .i64 0) (.int .i32 0) (.slice none 0 0) (.slice none 0 0) HG9.out.o
  have hg := HG9.out.glt
  have hr' := isR_keep HG9.out.r hk (by omega) (fun hx k hk' => by have := HG9.out.vlt hx k hk'; omega)
  have hk' := HG9.out.kept.trans hk (fun k hk e => by omega)
  refine bodyPost_ret (v := .agg (rq0 0 ⟨#[]⟩ 0 0)) ?_ rfl ⟨rfl, ⟨v6, hr'⟩, hk'⟩
  have hld := run_loadVar_row (P := Tryz.prog) _ _ _ 35 _ _ _ hrow Tryz.underlying35 rfl rq_size
  rw [resCell1 Tryz.results127]
  show ((asAddr (.pointer (some ⟨w.heap.size + 1, 0, none⟩))).run Tryz.prog _).andThen _ = _
  simp only [asAddr, Sem.run_pure, Result.andThen_ok, hld]
end Go.Proofs.YtgeoocchdpehdaaGreatDoor

namespace Go.Proofs.YtgeoocchdpehdaaGreatDoor
open Go.RowKit
set_option maxRecDepth 8000

structure RDf (w W : World) (g : Nat) (f : Int) (t : Nat) : Prop where
  r : ∃ v, IsR W g v [] f
  q : W.heap[t]? = some (.cells #[.int .u32 0, .int .u32 0, .int .i8 0, .int .u32 0, .int .i64 0, .int .i8 0, .string ⟨#[]⟩, .slice none 0 0, .slice none 0 0, .int .i32 0, .bool false, .bool false, .int .i64 0, .int .i32 0, .slice none 0 0, .slice none 0 0] 37 (0, 0))
  o : W.heap[w.heap.size]? = some (.cells #[.int .u32 0, .int .u32 0, .int .i8 0, .int .u32 0, .int .i64 0, .int .i8 0, .string ⟨#[]⟩, .slice none 0 0, .slice none 0 0, .int .i32 0, .bool false, .bool false, .int .i64 0, .int .i32 0, .slice none 0 0, .slice none 0 0] 37 (0, 0))
  nam : Nam W
  ng : 1 < w.heap.size
  gl : w.heap.size < g
  gt : g < t
  bel : Below w.heap.size w W

section
variable {w W W' : World} {g : Nat} {v : Value} {t : Nat} {f f' : Int}

theorem RDf.read {n : Int} (h : RDf w W g f t) (hr : ReadsTo W g v ⟨n, [], f'⟩ W') : RDf w W' g f' t := by
  obtain ⟨v', h1, h2, h3⟩ := hr
  have a := h.gl
  have b := h.gt
  exact ⟨⟨v', h1⟩, h3.heap h.q (by omega), h3.heap h.o (by omega), h.nam.kept h3 (fun k hk e => by have := h.ng; omega), h.ng, h.gl, h.gt, h.bel.trans (h3.below h.bel.size (fun k e => by omega))⟩

theorem RDf.later (h : RDf w W g f t) (hb : Below W.heap.size W W') : RDf w W' g f t := by
  have hk := Below.kept hb
  have hs := h.bel.size
  have a := h.gl
  have b := h.gt
  have c := lt_of_block h.q
  obtain ⟨v, hr⟩ := h.r
  exact ⟨⟨v, isR_keep hr hk (by omega) (fun hx => absurd rfl hx)⟩, hk.heap h.q (by omega), hk.heap h.o (by omega), h.nam.below hb h.nam.lt, h.ng, h.gl, h.gt, h.bel.trans (hb.mono hs)⟩

theorem RDf.put (h : RDf w W g f t) (hk : Kept W W' (fun k => k = t)) (hq : W'.heap[t]? = some (.cells #[.int .u32 0, .int .u32 0, .int .i8 0, .int .u32 0, .int .i64 0, .int .i8 0, .string ⟨#[]⟩, .slice none 0 0, .slice none 0 0, .int .i32 0, .bool false, .bool false, .int .i64 0, .int .i32 0, .slice none 0 0, .slice none 0 0] 37 (0, 0))) : RDf w W' g f t := by
  have a := h.gl
  have b := h.gt
  obtain ⟨v, hr⟩ := h.r
  exact ⟨⟨v, isR_keep hr hk (by omega) (fun hx => absurd rfl hx)⟩, hq, hk.heap h.o (by omega), h.nam.kept hk (fun k hk' e => by have := h.ng; omega), h.ng, h.gl, h.gt, h.bel.trans (hk.below h.bel.size (fun k e => by omega))⟩

theorem RDf.set (h : RDf w W g f t) (j : Nat) (u : Value) (hj : (#[.int .u32 0, .int .u32 0, .int .i8 0, .int .u32 0, .int .i64 0, .int .i8 0, .string ⟨#[]⟩, .slice none 0 0, .slice none 0 0, .int .i32 0, .bool false, .bool false, .int .i64 0, .int .i32 0, .slice none 0 0, .slice none 0 0] : Array Value).setIfInBounds j u = #[.int .u32 0, .int .u32 0, .int .i8 0, .int .u32 0, .int .i64 0, .int .i8 0, .string ⟨#[]⟩, .slice none 0 0, .slice none 0 0, .int .i32 0, .bool false, .bool false, .int .i64 0, .int .i32 0, .slice none 0 0, .slice none 0 0]) : RDf w (W.setCell ⟨t, j, none⟩ u) g f t := by
  refine h.put ((Kept.refl W (fun k => k = t)).setCell _ _ (fun _ => rfl)) ?_
  rw [heap_setCell_same W t j _ _ _ h.q, hj]

theorem RDf.cell (h : RDf w W g f t) (j : Nat) : W.cell? ⟨t, j, none⟩ = (#[.int .u32 0, .int .u32 0, .int .i8 0, .int .u32 0, .int .i64 0, .int .i8 0, .string ⟨#[]⟩, .slice none 0 0, .slice none 0 0, .int .i32 0, .bool false, .bool false, .int .i64 0, .int .i32 0, .slice none 0 0, .slice none 0 0] : Array Value)[j]? := by
  rw [cell_of_row W t j _ _ _ h.q]
theorem RDf.fr (h : RDf w W g f t) (j : Nat) : W.frozen? ⟨t, j, none⟩ = false := frozen_of_row W t j _ _ h.q
end

set_option maxHeartbeats 4000000 in
theorem read_none (u : Value) (w : World) (hu : Sees w u []) (hn : Nam w) :
    Calls Tryz.prog 118 #[u] w fun e w' => e = .returned (.tuple #[.agg #[.int .u32 0, .int .u32 0, .int .i8 0, .int .u32 0, .int .i64 0, .int .i8 0, .string ⟨#[]⟩, .slice none 0 0, .slice none 0 0, .int .i32 0, .bool false, .bool false, .int .i64 0, .int .i32 0, .slice none 0 0, .slice none 0 0], .int .i64 40]) ∧ Below w.heap.size w w' := by
  have hI : IntKind.i8.wrap 0 = 0 := by decide
  have h64 : wrap64 0 = 0 := by unfold wrap64; omega
  have n4 : rdNum 4 [] 0 = ⟨0, [], 10⟩ := by simp [rdNum]
  have m4 : rdNum 4 [] 10 = ⟨0, [], 10⟩ := by simp [rdNum]
  have m1 : rdNum 1 [] 10 = ⟨0, [], 10⟩ := by simp [rdNum]
  have m8 : rdNum 8 [] 10 = ⟨0, [], 10⟩ := by simp [rdNum]
  have hB : Byts [] := fun x hx => by simp at hx
  obtain ⟨ao, cap, rfl, _⟩ := id hu
  have HU : Hid (Sees w (.slice ao ([] : List Int).length cap) [] ∧ Nam w) := ⟨hu, hn⟩
  rw [show ([] : List Int).length = 0 from rfl] at *
  clear hu hn
  obtain ⟨W0, eW⟩ : ∃ W0, W0 = w.alloc (.cells #[.int .u32 0, .int .u32 0, .int .i8 0, .int .u32 0, .int .i64 0, .int .i8 0, .string ⟨#[]⟩, .slice none 0 0, .slice none 0 0, .int .i32 0, .bool false, .bool false, .int .i64 0, .int .i32 0, .slice none 0 0, .slice none 0 0] 37) := ⟨_, rfl⟩
  have HE0 : Hid _ := eW
  have HB0 : Hid (Below w.heap.size w W0 ∧ W0.heap.size = w.heap.size + 1 ∧ W0.heap[w.heap.size]? = some (.cells #[.int .u32 0, .int .u32 0, .int .i8 0, .int .u32 0, .int .i64 0, .int .i8 0, .string ⟨#[]⟩, .slice none 0 0, .slice none 0 0, .int .i32 0, .bool false, .bool false, .int .i64 0, .int .i32 0, .slice none 0 0, .slice none 0 0] 37 (0, 0))) := by
    subst eW; exact ⟨one_alloc _ _, by simp, heap_alloc_new _ _⟩
  clear eW
  go_enter Tryz.func118, Tryz.ntmps118
  go_wp2_with fail
  rw [← HE0.out]
  refine (new_any _ [] _ (HU.out.1.below HB0.out.1 (Nat.le_refl _)) (by simp)).mono ?_
  rintro _ w1 ⟨g, v, rfl, hR, hg1, ho, b1⟩
  obtain ⟨V, eV⟩ : ∃ V, V = w1.alloc (.cells #[.int .u32 0, .int .u32 0, .int .i8 0, .int .u32 0, .int .i64 0, .int .i8 0, .string ⟨#[]⟩, .slice none 0 0, .slice none 0 0, .int .i32 0, .bool false, .bool false, .int .i64 0, .int .i32 0, .slice none 0 0, .slice none 0 0] 37) := ⟨_, rfl⟩
  have HR : Hid (RDf w V g 0 w1.heap.size) := by
    have hs := HB0.out.2.1
    have hb01 : Below w.heap.size w w1 := HB0.out.1.trans (b1.mono HB0.out.1.size)
    have hka : Kept w1 V (fun _ => False) := by subst eV; exact (Kept.refl w1 (fun _ => False)).alloc _
    have hvb : Below w.heap.size w V := by subst eV; exact hb01.alloc hb01.size _
    have ho1 : w1.heap[w.heap.size]? = some (.cells #[.int .u32 0, .int .u32 0, .int .i8 0, .int .u32 0, .int .i64 0, .int .i8 0, .string ⟨#[]⟩, .slice none 0 0, .slice none 0 0, .int .i32 0, .bool false, .bool false, .int .i64 0, .int .i32 0, .slice none 0 0, .slice none 0 0] 37 (0, 0)) := by
      rw [b1.block w.heap.size (by omega)]; exact HB0.out.2.2
    exact ⟨⟨v, hR.kept hka (fun h => h) (fun _ _ h => h)⟩, by subst eV; exact heap_alloc_new _ _, hka.heap ho1 (fun h => h), HU.out.2.below hvb HU.out.2.lt, HU.out.2.lt, by omega, lt_of_block hR.1, hvb⟩
  have HE : Hid _ := eV
  obtain ⟨z, hz⟩ : ∃ z, z = w1.heap.size := ⟨_, rfl⟩
  rw [← hz] at HR
  clear hR hg1 ho b1 HB0 HE0 eV
  go_wp2_with fail
  rw [← HE.out, ← hz]
  clear HE hz
  obtain ⟨v0, hv0⟩ := HR.out.r
  refine (rUint32_any g v0 [] 0 _ hv0 hB).mono ?_
  rintro _ w2 ⟨rfl, hr⟩
  rw [n4] at hr ⊢
  have h2 := HR.out.read hr
  have f0 := h2.fr 0
  have c0 := h2.cell 0
  simp at c0
  have HR2 : Hid (RDf w (w2.setCell ⟨z, 0, none⟩ (.int .u32 0)) g 10 z) := h2.set 0 (.int .u32 0) rfl
  clear hr h2 hv0 HR
  go_wp2_with fail
  clear f0 c0
  obtain ⟨v1, hv1⟩ := HR2.out.r
  refine (rUint32_any g v1 [] 10 _ hv1 hB).mono ?_
  rintro _ w3 ⟨rfl, hr⟩
  rw [m4] at hr ⊢
  have h2 := HR2.out.read hr
  have f0 := h2.fr 1
  have c0 := h2.cell 1
  simp at c0
  have HR3 : Hid (RDf w (w3.setCell ⟨z, 1, none⟩ (.int .u32 0)) g 10 z) := h2.set 1 (.int .u32 0) rfl
  clear hr h2 hv1 HR2
  go_wp2_with fail
  clear f0 c0
  obtain ⟨v2, hv2⟩ := HR3.out.r
  refine (rInt8_any g v2 [] 10 _ hv2 hB).mono ?_
  rintro _ w4 ⟨rfl, hr⟩
  rw [m1] at hr ⊢
  simp only [hI]
  have h2 := HR3.out.read hr
  have f0 := h2.fr 2
  have c0 := h2.cell 2
  simp at c0
  have HR4 : Hid (RDf w (w4.setCell ⟨z, 2, none⟩ (.int .i8 0)) g 10 z) := h2.set 2 (.int .i8 0) rfl
  clear hr h2 hv2 HR3
  go_wp2_with fail
  clear f0 c0
  obtain ⟨v3, hv3⟩ := HR4.out.r
  refine (rUint32_any g v3 [] 10 _ hv3 hB).mono ?_
  rintro _ w5 ⟨rfl, hr⟩
  rw [m4] at hr ⊢
  have h2 := HR4.out.read hr
  have f0 := h2.fr 3
  have c0 := h2.cell 3
  simp at c0
  have HR5 : Hid (RDf w (w5.setCell ⟨z, 3, none⟩ (.int .u32 0)) g 10 z) := h2.set 3 (.int .u32 0) rfl
  clear hr h2 hv3 HR4
  go_wp2_with fail
  clear f0 c0
  obtain ⟨v4, hv4⟩ := HR5.out.r
  refine (rInt64_any g v4 [] 10 _ hv4 hB).mono ?_
  rintro _ w6 ⟨rfl, hr⟩
  rw [m8] at hr ⊢
  simp only [h64]
  have h2 := HR5.out.read hr
  have f0 := h2.fr 4
  have c0 := h2.cell 4
  simp at c0
  have HR6 : Hid (RDf w (w6.setCell ⟨z, 4, none⟩ (.int .i64 0)) g 10 z) := h2.set 4 (.int .i64 0) rfl
  clear hr h2 hv4 HR5
  go_wp2_with fail
  clear f0 c0
  refine (proposed_any _).mono ?_
  rintro _ w7 ⟨rfl, b7⟩
  have HR7 : Hid (RDf w w7 g 10 z) := HR6.out.later b7
  clear b7 HR6
  obtain ⟨v7, hv7⟩ := HR7.out.r
  have HX : Hid (Calls Tryz.prog 127 #[lay 8 0, .pointer (some ⟨g, 0, none⟩)] w7 fun e w' => e = .returned (.agg (rq0 0 ⟨#[]⟩ 0 0)) ∧ (∃ v', IsR w' g v' [] 10) ∧ Kept w7 w' (· = g)) := by
    exact get_fault g v7 [] 10 w7 hv7 (by decide) hB HR7.out.nam (by have := HR7.out.ng; have := HR7.out.gl; omega) (fun hx => absurd rfl hx)
  clear hv7
  go_wp2_with fail
  refine HX.out.mono ?_
  clear HX
  rintro _ w8 ⟨rfl, ⟨v8, hv8⟩, hk8⟩
  have h8 : RDf w w8 g 10 z := HR7.out.read (v := v8) (n := 0) ⟨v8, hv8, fun _ e => e, hk8⟩
  have hth : w8.there z 5 11 := fun j hj => ⟨by
    rw [h8.cell (5 + j), Array.getElem?_eq_getElem (by simp; omega)]
    rfl, h8.fr (5 + j)⟩
  obtain ⟨hrow8, hkk⟩ := stored5 (.int .i8 0) (.string ⟨#[]⟩) (.slice none 0 0) (.slice none 0 0) (.int .i32 0) (.bool false) (.bool false) (.int .i64 0) (.int .i32 0) (.slice none 0 0) (.slice none 0 0) h8.q
  obtain ⟨U, eU⟩ : ∃ U, U = w8.setCells z 5 (#[.int .i8 0, .string ⟨#[]⟩, .slice none 0 0, .slice none 0 0, .int .i32 0, .bool false, .bool false, .int .i64 0, .int .i32 0, .slice none 0 0, .slice none 0 0] : Array Value).toList := ⟨_, rfl⟩
  have HU8 : Hid (RDf w U g 10 z) := by
    subst eU
    simp only [World.setCells]
    exact h8.put hkk hrow8
  have HEU : Hid _ := eU
  clear eU h8 hv8 hk8 HR7 hrow8 hkk
  go_upto_region 11 with (refine wpList_store_mid rfl 35 _ _ rfl z 5 #[.int .i8 0, .string ⟨#[]⟩, .slice none 0 0, .slice none 0 0, .int .i32 0, .bool false, .bool false, .int .i64 0, .int .i32 0, .slice none 0 0, .slice none 0 0] rfl rfl hth rq_size (by simp [Value.oneCell']) ?_)
  rw [← HEU.out]
  clear HEU hth
  obtain ⟨v9, hv9⟩ := HU8.out.r
  go_wp2_with fail
  refine (rEnd_any g v9 [] 10 _ hv9).mono ?_
  rintro _ w9 ⟨rfl, rfl⟩
  simp only [ne_eq, if_true]
  have hst1 := HU8.out.o
  have hrow := setRow_heap w9 w.heap.size _ #[.int .u32 0, .int .u32 0, .int .i8 0, .int .u32 0, .int .i64 0, .int .i8 0, .string ⟨#[]⟩, .slice none 0 0, .slice none 0 0, .int .i32 0, .bool false, .bool false, .int .i64 0, .int .i32 0, .slice none 0 0, .slice none 0 0] _ _ hst1
  have hk : Kept w9 (w9.setRow w.heap.size #[.int .u32 0, .int .u32 0, .int .i8 0, .int .u32 0, .int .i64 0, .int .i8 0, .string ⟨#[]⟩, .slice none 0 0, .slice none 0 0, .int .i32 0, .bool false, .bool false, .int .i64 0, .int .i32 0, .slice none 0 0, .slice none 0 0]) (fun k => k = w.heap.size) := ⟨rfl, rfl, rfl, by simp, fun k _ hn => setRow_other _ _ _ _ hn⟩
  have HF : Hid _ := And.intro hrow hk
  clear hrow hk
  go_wp2_with (refine wpList_store_row rfl 37 _ _ rfl w.heap.size #[.int .u32 0, .int .u32 0, .int .i8 0, .int .u32 0, .int .i64 0, .int .i8 0, .string ⟨#[]⟩, .slice none 0 0, .slice none 0 0, .int .i32 0, .bool false, .bool false, .int .i64 0, .int .i32 0, .slice none 0 0, .slice none 0 0] rfl rfl 37 _ hst1 tx_size rfl (by simp [Value.oneCell']) ?_)
  obtain ⟨hrow, hk⟩ := HF.out
  have hbl : Below w.heap.size w (w9.setRow w.heap.size #[.int .u32 0, .int .u32 0, .int .i8 0, .int .u32 0, .int .i64 0, .int .i8 0, .string ⟨#[]⟩, .slice none 0 0, .slice none 0 0, .int .i32 0, .bool false, .bool false, .int .i64 0, .int .i32 0, .slice none 0 0, .slice none 0 0]) := HU8.out.bel.trans (hk.below HU8.out.bel.size (fun k e => by omega))
  refine bodyPost_ret (v := .tuple #[.agg #[.int .u32 0, .int .u32 0, .int .i8 0, .int .u32 0, .int .i64 0, .int .i8 0, .string ⟨#[]⟩, .slice none 0 0, .slice none 0 0, .int .i32 0, .bool false, .bool false, .int .i64 0, .int .i32 0, .slice none 0 0, .slice none 0 0], .int .i64 40]) ?_ rfl ⟨rfl, hbl⟩
  have hld := run_loadVar_row (P := Tryz.prog) _ _ _ 37 _ _ _ hrow Tryz.underlying37 rfl tx_size
  rw [results_cell_tmp Tryz.results118]
  show ((asAddr (.pointer (some ⟨w.heap.size, 0, none⟩))).run Tryz.prog _).andThen _ = _
  simp only [asAddr, Sem.run_pure, Result.andThen_ok, hld]
  rfl
end Go.Proofs.YtgeoocchdpehdaaGreatDoor

namespace Go.Proofs.YtgeoocchdpehdaaGreatDoor
open Go.RowKit
set_option maxRecDepth 8000

set_option maxHeartbeats 2000000 in
theorem sh9 (g q : Nat) (v : Value) (xs : List Int) (w : World) (h : IsR w g v xs 0) (hb : Byts xs) (hl : rdBuf 4096 xs 0 = ([], ⟨0, xs, 10⟩)) (hn : Nam w) (hng : 1 < g) : Calls Tryz.prog 93 #[.pointer (some ⟨g, 0, none⟩), .pointer (some ⟨q, 0, none⟩)] w fun e w' => e = .panicked [{ v := .iface 102 (.agg #[]), recovered := false }] ∧ Kept w w' (fun k => k = g) := by
  have H : Hid (IsR w g v xs 0 ∧ Byts xs ∧ rdBuf 4096 xs 0 = ([], ⟨0, xs, 10⟩) ∧ Nam w ∧ 1 < g) := ⟨h, hb, hl, hn, hng⟩
  clear h hb hl hn hng
  go_enter Tryz.func93, Tryz.ntmps93
  go_wp2_with fail
  refine (rBuffer_any g v xs 0 w 4096 H.out.1 H.out.2.1).mono ?_
  rintro _ w1 ⟨u, rfl, hc, hr⟩
  rw [H.out.2.2.1] at hc hr
  obtain ⟨hu, ⟨uo, rfl⟩, _⟩ := hc
  obtain ⟨v1, h1, h2, h3⟩ := hr
  have H1 : Hid (Nam w1 ∧ Sees w1 (.slice uo ([] : List Int).length ([] : List Int).length) [] ∧ Kept w w1 (· = g)) := ⟨nam_kept H.out.2.2.2.1 h3 (fun k hk e => by have := H.out.2.2.2.2; omega), hu, h3⟩
  clear h1 h2 h3 hu
  go_wp2_with fail
  refine (read_none _ w1 H1.out.2.1 H1.out.1).mono ?_
  rintro _ w7 ⟨rfl, b7⟩
  have s1 : (w7.alloc (.cells zTx 37)).heap[w7.heap.size]? = some (.cells zTx 37 (0, 0)) := heap_alloc_new _ _
  obtain ⟨W8, hW8⟩ : ∃ W8, W8 = (w7.alloc (.cells zTx 37)).setRow w7.heap.size #[.int .u32 0, .int .u32 0, .int .i8 0, .int .u32 0, .int .i64 0, .int .i8 0, .string ⟨#[]⟩, .slice none 0 0, .slice none 0 0, .int .i32 0, .bool false, .bool false, .int .i64 0, .int .i32 0, .slice none 0 0, .slice none 0 0] := ⟨_, rfl⟩
  have H8 : Hid (Kept w W8 (fun k => k = g)) := by
    have ks : Kept (w7.alloc (.cells zTx 37)) W8 (fun k => k = w7.heap.size) := by rw [hW8]; exact ⟨rfl, rfl, rfl, by simp, fun k _ hn => setRow_other _ _ _ _ hn⟩
    have k7 : Kept w7 W8 (fun _ => False) := ((Kept.refl w7 (fun _ => False)).alloc _).trans ks (fun k hk e => by omega)
    have k17 : Kept w1 W8 (fun _ => False) := ((Below.kept b7).mono (fun k hk e => by omega)).trans k7 (fun _ _ e => e)
    exact H1.out.2.2.trans k17 (fun k _ e => False.elim e)
  have HW8 : Hid _ := hW8
  clear hW8 b7 H1
  go_upto_region 1 with (refine wpList_store_row rfl 37 _ _ rfl w7.heap.size #[.int .u32 0, .int .u32 0, .int .i8 0, .int .u32 0, .int .i64 0, .int .i8 0, .string ⟨#[]⟩, .slice none 0 0, .slice none 0 0, .int .i32 0, .bool false, .bool false, .int .i64 0, .int .i32 0, .slice none 0 0, .slice none 0 0] rfl rfl 37 _ s1 txSz rfl (by simp [Value.oneCell']) ?_)
  rw [← HW8.out]
  clear HW8 s1
  go_wp2_with fail
  refine (need_false _).mono ?_
  rintro _ w9 ⟨rfl, h9⟩
  rw [h9]
  clear h9
  exact ⟨rfl, rfl, H8.out⟩
end Go.Proofs.YtgeoocchdpehdaaGreatDoor

namespace Go.Proofs.YtgeoocchdpehdaaGreatDoor
open Go.RowKit
set_option maxRecDepth 8000

theorem sh_any (j : Nat) (p : PkD) (g q r : Nat) (v : Value) (d : PkD) (tc : List Value) (bv : Value) (xs : List Int) (w : World) (hr : rgB j p = true) (hn : Nam w) (hng : 1 < g) (hx : xs <+: fdB j p) (hlt : xs.length < (fdB j p).length) (h : IsR w g v xs 0) (hb : Byts xs) (hi : InPk w g q r tc bv d) (hgq : g ≠ q) (hv : ∀ k, v.ownBlock = some k → k ≠ q ∧ r < k) :
    Calls Tryz.prog (fGt j) #[.pointer (some ⟨g, 0, none⟩), .pointer (some ⟨q, 0, none⟩)] w fun e w' => (e = .returned (.tuple #[]) ∧ Fails w g q w') ∨ (e = .panicked [{ v := .iface 102 (.agg #[]), recovered := false }] ∧ Kept w w' (fun k => k = g)) := by
  match j with
  | 0 => exact (sh0 g q r v d tc bv xs w h hb (by simpa [fdB, be4, be8] using hlt) hi hgq hv).mono (fun _ _ a => Or.inl a)
  | 1 => exact (sh1 g q r v d tc bv xs w h hb (by simpa [fdB, be4, be8] using hlt) hi hgq hv).mono (fun _ _ a => Or.inl a)
  | 2 => exact (sh2 g q r v d tc bv xs w h hb (by simpa [fdB, be4, be8] using hlt) hi hgq hv).mono (fun _ _ a => Or.inl a)
  | 3 => exact (sh3 g q r v d tc bv xs w h hb (by simpa [fdB, be4, be8] using hlt) hi hgq hv).mono (fun _ _ a => Or.inl a)
  | 4 => exact (sh4 g q r v d tc bv xs w h hb (by simpa [fdB, be4, be8] using hlt) hi hgq hv).mono (fun _ _ a => Or.inl a)
  | 5 => exact (sh5 g q r v d tc bv xs w h hb (by simpa [fdB, be4, be8] using hlt) hi hgq hv).mono (fun _ _ a => Or.inl a)
  | 6 => exact (sh6 g q r v d tc bv xs w h hb (by simpa [fdB, be4, be8] using hlt) hi hgq hv).mono (fun _ _ a => Or.inl a)
  | 7 => exact (sh7 g q r v d tc bv xs w h hb (by simpa [fdB, be4, be8] using hlt) hi hgq hv).mono (fun _ _ a => Or.inl a)
  | 8 => exact (sh8 g q r v d tc bv xs w h hb (by simpa [fdB, be4, be8] using hlt) hi hgq hv).mono (fun _ _ a => Or.inl a)
  | 9 =>
    have hok : txOk p.tx = true := by have h : txB15 p = true := hr; unfold txB15 at h; rw [Bool.and_eq_true] at h; exact h.1
    have hlen := txB_t p.tx hok
    have hl : xs.length < 4 + (txB p.tx).length := by have a : xs.length < (be4 (txB p.tx).length ++ txB p.tx).length := hlt; rw [List.length_append] at a; exact a
    exact (sh9 g q v xs w h hb (buf_short (by omega) (by omega) hx hl) hn hng).mono (fun _ _ a => Or.inr a)
  | 10 =>
    have hlen : p.bys.length ≤ 4096 := by have h : decide (1 ≤ p.bys.length ∧ p.bys.length ≤ 4096) = true := hr; exact (of_decide_eq_true h).2
    have hl : xs.length < 4 + p.bys.length := by have a : xs.length < (be4 p.bys.length ++ p.bys).length := hlt; rw [List.length_append] at a; exact a
    exact (sh10 g q r v d tc bv xs w h hb (buf_short (by omega) (by omega) hx hl) hi hgq hv).mono (fun _ _ a => Or.inl a)
  | _ + 11 => exact (sh11 g q r v d tc bv xs w h hb (by simpa [fdB, be4, be8] using hlt) hi hgq hv).mono (fun _ _ a => Or.inl a)
end Go.Proofs.YtgeoocchdpehdaaGreatDoor
