/- CopyTxns of lagoonref00: the same transactions, in a list and blocks of their own. -/
import Derived.Test.YteindmdggpahfaaCopyX
import Derived.Test.YteindmdggpahfaaRisesT
import Derived.Test.YteindmdggpahfaaStA
namespace Go.Proofs.Yteindmdggpahfaa
open Go.RowKit
set_option maxRecDepth 8000

theorem Try.infoTxF : (Try.prog.info? 43).map (fun i => (i.zero, i.size, i.bytes)) = some (some (.agg #[.int .u32 0, .int .u32 0, .int .i8 0, .int .u32 0, .int .i64 0, .int .i8 0, .string ⟨#[]⟩, .slice none 0 0, .slice none 0 0, .int .i32 0, .bool false, .bool false, .int .i64 0, .int .i32 0, .slice none 0 0, .slice none 0 0]), 16, 168) := by kernel_rfl

/-- The cells es are those of the transactions l, whose requests lie in blocks from B on, none of them the list's own. -/
def FullE (W : World) (B : Nat) (v : Value) (es : List (List Value)) (l : List TxD) : Prop :=
  es.length = l.length ∧ ∀ j (hj : j < es.length) (hl : j < l.length), ∃ rc, es[j] = txHead l[j] ++ rc ∧ RqIn W (fun q => B ≤ q ∧ q < W.heap.size ∧ v.ownBlock ≠ some q) rc l[j].rq

theorem FullE.nil (W : World) (B : Nat) (v : Value) : FullE W B v [] [] := ⟨rfl, fun j hj => by simp at hj⟩

theorem full_sees {w : World} {B : Nat} {v : Value} {es : List (List Value)} {l : List TxD} (h : FullE w B v es l) (ho : w.ownsRow B 43 16 v l.length es.flatten) : SeesTxs w v l := by
  have hz : ∀ c ∈ es, c.length = 16 := fun c hc => by
    obtain ⟨j, hj, rfl⟩ := List.getElem_of_mem hc
    obtain ⟨rc, e, hr⟩ := h.2 j hj (by rw [← h.1]; exact hj)
    rw [e]
    simp [txHead, hr.sees.len]
  refine ⟨es, seesR_own (base := B) (t := 43) (by rw [h.1]; exact ho) hz, h.1, fun i h1 h2 => ?_⟩
  obtain ⟨rc, e, hr⟩ := h.2 i h1 h2
  exact ⟨rc, e, hr.sees⟩

theorem full_kept {w W : World} {B : Nat} {v : Value} {es : List (List Value)} {l : List TxD} {S : Nat → Prop} (h : FullE w B v es l) (ho : w.ownsRow B 43 16 v l.length es.flatten) (hk : Kept w W S) (hS : ∀ q, S q → q < B ∨ w.heap.size ≤ q) : FullE W B v es l ∧ W.ownsRow B 43 16 v l.length es.flatten := by
  refine ⟨⟨h.1, fun j hj hl => ?_⟩, ownsRow_kept ho hk (fun q hq e => ?_)⟩
  · obtain ⟨rc, e, hr⟩ := h.2 j hj hl
    refine ⟨rc, e, RqIn.kept hk (fun q hq => ⟨fun e => ?_, hq.1, Nat.lt_of_lt_of_le hq.2.1 hk.size, hq.2.2⟩) hr⟩
    have := hS q e
    omega
  · have := ho.lt q hq
    have := hS q e
    omega

/-- One transaction more. -/
theorem full_round {wr w5 w6 : World} {B : Nat} {v v' : Value} {es : List (List Value)} {l : List TxD} {t : TxD} {ds : List Value} {o : Obj}
    (h : FullE wr B v es l) (hBw : B ≤ wr.heap.size) (hvo : ∀ q, v.ownBlock = some q → B ≤ q ∧ q < wr.heap.size) (b5 : Below wr.heap.size wr w5) (hr5 : RqIn w5 (fun q => wr.heap.size ≤ q ∧ q < w5.heap.size) ds t.rq)
    (hgrow : (w5.alloc o).grownBy w6 v.ownBlock) (hat : v'.ownBlock = v.ownBlock ∨ v'.ownBlock = some (w5.heap.size + 1)) :
    FullE w6 B v' (es ++ [txHead t ++ ds]) (l ++ [t]) := by
  have h5 := b5.size
  have h6 := hgrow.size
  simp at h6
  have hat' : ∀ q, v'.ownBlock = some q → (v.ownBlock = some q) ∨ q = w5.heap.size + 1 := fun q hq => by
    rcases hat with h | h
    · exact .inl (by rw [← h]; exact hq)
    · rw [hq] at h; simp at h; exact .inr h
  have K5 : Kept w5 w6 (fun q => v.ownBlock = some q) := ((Kept.refl w5 (fun q => v.ownBlock = some q)).alloc o).grown hgrow (fun q _ h => h)
  have Kr : Kept wr w6 (fun q => wr.heap.size ≤ q ∨ v.ownBlock = some q) := ((Below.kept b5).mono (fun q _ h => Or.inl h)).trans K5 (fun q _ h => .inr h)
  refine ⟨by simp [h.1], fun j hj hl => ?_⟩
  by_cases hjk : j < es.length
  · have hjl : j < l.length := by rw [← h.1]; exact hjk
    obtain ⟨rc, e, hr⟩ := h.2 j hjk hjl
    refine ⟨rc, by rw [List.getElem_append_left hjk, List.getElem_append_left hjl]; exact e, ?_⟩
    rw [List.getElem_append_left hjl]
    refine RqIn.kept Kr (fun q hq => ⟨fun h => ?_, hq.1, by omega, fun e => ?_⟩) hr
    · rcases h with h | h
      · omega
      · exact hq.2.2 h
    · rcases hat' q e with h | h
      · exact hq.2.2 h
      · omega
  · have hj' : j = es.length := by simp at hj; omega
    subst hj'
    have e2 : (l ++ [t])[es.length] = t := by
      rw [List.getElem_append_right (by rw [h.1]; omega)]
      simp [h.1]
    refine ⟨ds, ?_, ?_⟩
    · rw [List.getElem_append_right (by omega), e2]
      simp
    · rw [e2]
      refine RqIn.kept K5 (fun q hq => ⟨fun h => ?_, by omega, by omega, fun e => ?_⟩) hr5
      · have := hvo q h; omega
      · rcases hat' q e with h | h
        · have := hvo q h; omega
        · omega

set_option maxHeartbeats 4000000 in
theorem copyTxnsF_any (v : Value) (l : List TxD) (w : World) (h : SeesTxs w v l) (hl : l.length ≤ 1000000) (hp : ∀ t ∈ l, t.rq.parts ≤ 20000) :
    Calls Try.prog 7 #[v] w fun e w' => ∃ v' es, e = .returned v' ∧ FullE w' w.heap.size v' es l ∧ w'.ownsRow w.heap.size 43 16 v' l.length es.flatten ∧ Below w.heap.size w w' := by
  obtain ⟨ao, cap, rfl, hlc, hcm⟩ := txs_shape h
  have H : Hid (SeesTxs w (.slice ao l.length cap) l ∧ ∀ t ∈ l, t.rq.parts ≤ 20000) := ⟨h, hp⟩
  unfold maxLen at hcm
  clear h hp
  obtain ⟨i0, hi, hz0, hz1, hz2⟩ := info_parts Try.infoTxF
  go_enter Try.func7, Try.ntmps7
  go_wp2_with fail
  go_loopw [3, 4] (fun v i wr => ∃ (k : Nat) (es : List (List Value)), k ≤ l.length ∧ i = .int .i64 k ∧ FullE wr w.heap.size v es (l.take k) ∧ wr.ownsRow w.heap.size 43 16 v k es.flatten ∧ Below w.heap.size w wr) (fun _ i _ => l.length - (intOf i).toNat)
  case atStart => exact ⟨0, [], Nat.zero_le _, rfl, FullE.nil _ _ _, World.ownsRow_nil _ _ _ _, Below.refl _ _⟩
  case round =>
    obtain ⟨k, es, hk, rfl, hhd, hown, hbel⟩ := hrel
    by_cases hlt : k < l.length
    · obtain ⟨b, off, cap', rc, hv, _, _, hr, hat⟩ := txs_at (H.out.1.below hbel (Nat.le_refl _)) k hlt
      simp at hv
      obtain ⟨rfl, rfl⟩ := hv
      have HX := copyTxn_any _ l[k] wr ⟨rc, rfl, hr⟩ (H.out.2 l[k] (List.getElem_mem hlt))
      obtain ⟨qx0, qx1, dx0, dx1, dx2, ax0, ax1, ax2, qx4, qx5, qx6, qx7, qx8, ex0, ex1, ex2, ox0, ox1, ox2, rfl⟩ := rq_forms hr
      have HO : Hid (FullE wr w.heap.size _ es (l.take k) ∧ wr.ownsRow w.heap.size 43 16 _ k es.flatten ∧ Below w.heap.size w wr ∧ l.take (k + 1) = l.take k ++ [l[k]]) := ⟨hhd, hown, hbel, List.take_succ_eq_append_getElem hlt⟩
      obtain ⟨s0, s1, s2, rfl⟩ := row_shape hown
      have hsz := hbel.size
      have hh : txHead l[k] = [.int .u32 l[k].ep, .int .u32 l[k].n, .int .i8 l[k].srv, .int .u32 l[k].boot, .int .i64 l[k].num] := rfl
      clear hr hhd hown hbel
      rw [hh] at hat HX
      generalize l[k] = t at *
      have g0 : wr.cell? ⟨b, off + k * 16, none⟩ = some (.int .u32 t.ep) := hat 0 (by omega)
      have g1 : wr.cell? ⟨b, off + k * 16 + 1, none⟩ = some (.int .u32 t.n) := hat 1 (by omega)
      have g2 : wr.cell? ⟨b, off + k * 16 + 2, none⟩ = some (.int .i8 t.srv) := hat 2 (by omega)
      have g3 : wr.cell? ⟨b, off + k * 16 + 3, none⟩ = some (.int .u32 t.boot) := hat 3 (by omega)
      have g4 : wr.cell? ⟨b, off + k * 16 + 4, none⟩ = some (.int .i64 t.num) := hat 4 (by omega)
      have g5 : wr.cell? ⟨b, off + k * 16 + 5, none⟩ = some (.int .i8 qx0) := hat 5 (by omega)
      have g6 : wr.cell? ⟨b, off + k * 16 + 6, none⟩ = some (.string qx1) := hat 6 (by omega)
      have g7 : wr.cell? ⟨b, off + k * 16 + 7, none⟩ = some (.slice dx0 dx1 dx2) := hat 7 (by omega)
      have g8 : wr.cell? ⟨b, off + k * 16 + 8, none⟩ = some (.slice ax0 ax1 ax2) := hat 8 (by omega)
      have g9 : wr.cell? ⟨b, off + k * 16 + 9, none⟩ = some (.int .i32 qx4) := hat 9 (by omega)
      have g10 : wr.cell? ⟨b, off + k * 16 + 10, none⟩ = some (.bool qx5) := hat 10 (by omega)
      have g11 : wr.cell? ⟨b, off + k * 16 + 11, none⟩ = some (.bool qx6) := hat 11 (by omega)
      have g12 : wr.cell? ⟨b, off + k * 16 + 12, none⟩ = some (.int .i64 qx7) := hat 12 (by omega)
      have g13 : wr.cell? ⟨b, off + k * 16 + 13, none⟩ = some (.int .i32 qx8) := hat 13 (by omega)
      have g14 : wr.cell? ⟨b, off + k * 16 + 14, none⟩ = some (.slice ex0 ex1 ex2) := hat 14 (by omega)
      have g15 : wr.cell? ⟨b, off + k * 16 + 15, none⟩ = some (.slice ox0 ox1 ox2) := hat 15 (by omega)
      clear hat
      go_wp2_with fail
      refine HX.mono ?_
      rintro e w5 ⟨ds, rfl, hr5, b5⟩
      obtain ⟨qy0, qy1, dy0, dy1, dy2, ay0, ay1, ay2, qy4, qy5, qy6, qy7, qy8, ey0, ey1, ey2, oy0, oy1, oy2, rfl⟩ := rq_forms hr5.sees
      have H5 : Hid (Below wr.heap.size wr w5 ∧ RqIn w5 (fun q => wr.heap.size ≤ q ∧ q < w5.heap.size) ([.int .i8 qy0, .string qy1, .slice dy0 dy1 dy2, .slice ay0 ay1 ay2, .int .i32 qy4, .bool qy5, .bool qy6, .int .i64 qy7, .int .i32 qy8, .slice ey0 ey1 ey2, .slice oy0 oy1 oy2] : List Value) t.rq) := ⟨b5, hr5⟩
      clear hr5 b5 HX g0 g1 g2 g3 g4 g5 g6 g7 g8 g9 g10 g11 g12 g13 g14 g15
      go_wp2_with (at_builtin; refine wpList_append_own_at _ rfl _ _ 25 rfl w.heap.size 43 i0 _ 16 168 Try.underlying25 hi hz0 hz1 hz2 rfl (by decide) _ _ _ rfl (ownsRow_kept HO.out.2.1 ((Below.kept H5.out.1).alloc _) (fun q hq e => by have := (HO.out.2.1.lt q hq).2; omega)) ⟨w5.heap.size, 0, none⟩ 1 1 (txHead t ++ ([.int .i8 qy0, .string qy1, .slice dy0 dy1 dy2, .slice ay0 ay1 ay2, .int .i32 qy4, .bool qy5, .bool qy6, .int .i64 qy7, .int .i32 qy8, .slice ey0 ey1 ey2, .slice oy0 oy1 oy2] : List Value)) rfl rfl ?c1 ?c2 ?c3 ?c4 ?c5 ?_)
      case c1 =>
        intro j u hj
        rw [addrAdd, Nat.zero_add, cell_of_row _ _ _ _ _ _ (heap_alloc_new _ _)]
        rw [← hj]
        simp [txHead]
      case c2 =>
        intro u hu
        simp only [txHead, List.cons_append, List.nil_append, List.mem_cons, List.not_mem_nil, or_false] at hu
        rcases hu with rfl | rfl | rfl | rfl | rfl | rfl | rfl | rfl | rfl | rfl | rfl | rfl | rfl | rfl | rfl | rfl <;> rfl
      case c3 => unfold maxLen; omega
      case c4 => omega
      case c5 => have := H5.out.1.size; simp; omega
      intro v' w6 hown' hgrow _ hat'
      have HR : Hid (FullE w6 w.heap.size v' (es ++ [txHead t ++ ([.int .i8 qy0, .string qy1, .slice dy0 dy1 dy2, .slice ay0 ay1 ay2, .int .i32 qy4, .bool qy5, .bool qy6, .int .i64 qy7, .int .i32 qy8, .slice ey0 ey1 ey2, .slice oy0 oy1 oy2] : List Value)]) (l.take (k + 1)) ∧ w6.ownsRow w.heap.size 43 16 v' (k + 1) (es ++ [txHead t ++ ([.int .i8 qy0, .string qy1, .slice dy0 dy1 dy2, .slice ay0 ay1 ay2, .int .i32 qy4, .bool qy5, .bool qy6, .int .i64 qy7, .int .i32 qy8, .slice ey0 ey1 ey2, .slice oy0 oy1 oy2] : List Value)]).flatten ∧ Below w.heap.size w w6) := by
        have hb5 : Below w.heap.size w w5 := HO.out.2.2.1.trans (H5.out.1.mono hsz)
        refine ⟨by rw [HO.out.2.2.2]; exact full_round HO.out.1 hsz (fun q hq => HO.out.2.1.lt q hq) H5.out.1 H5.out.2 hgrow hat', ?_, (hb5.alloc hb5.size _).grown hgrow (by have := hb5.size; simp; omega) (fun q hq => (HO.out.2.1.lt q hq).1)⟩
        rw [List.flatten_append]
        simp only [List.flatten_cons, List.flatten_nil, List.append_nil]
        exact hown'
      clear hown' hgrow hat' HO H5
      go_wp2
      go_roundw
      case rel => exact ⟨k + 1, _, by omega, by go_num, HR.out.1, HR.out.2.1, HR.out.2.2⟩
      case measure => simp [intOf]; omega
    · obtain rfl : k = l.length := by omega
      rw [List.take_length] at hhd
      have HR : Hid _ := And.intro hhd (And.intro hown hbel)
      clear hhd hown hbel
      go_wp2
      go_ret
      exact ⟨_, _, rfl, HR.out.1, HR.out.2.1, HR.out.2.2⟩
end Go.Proofs.Yteindmdggpahfaa
