/- What choose.Under, choose.Size and choose.sending answer, for all that came in. -/
import Derived.Test.YtljghfglabgckaaDoorPartsJ
import Derived.Test.YtljghfglabgckaaDoorRisesTJ
import Derived.Test.YtljghfglabgckaaDoorWfKJ
import Derived.Laws.FloatArith
import Derived.Laws.NewFold
import Derived.Deep.MidRow
import Derived.Deep.CutRange
namespace Go.Proofs.YtljghfglabgckaaDoor
open Go.RowKit
set_option maxRecDepth 8000

/-- Are so many bytes within x times those of the image? -/
def undB (b i : Int) (x : Nat) : Bool :=
  match Ieee.double.mul x (floatOfInt .f64 i) with
  | some r => Ieee.double.order (floatOfInt .f64 b) r == some .lt || Ieee.double.order (floatOfInt .f64 b) r == some .eq
  | none => false

theorem order_nan (a x : Nat) (h : 9218868437227405312 < x % 9223372036854775808) : Ieee.double.order a x = none := by
  have : ∃ s f, Ieee.double.read x = .nan s f := by
    unfold Ieee.Format.read
    have e1 : Ieee.double.signWeight = 9223372036854775808 := by decide
    have e2 : Ieee.double.binade = 4503599627370496 := by decide
    have e3 : Ieee.double.infRung = 9218868437227405312 := by decide
    simp only [e1, e2, e3]
    rw [if_neg (by omega), if_neg (by omega), if_neg (by omega)]
    exact ⟨_, _, rfl⟩
  obtain ⟨s, f, e⟩ := this
  unfold Ieee.Format.order
  rw [e]
  cases Ieee.double.read a <;> rfl

theorem cut_nan (x y t : Nat) : 9218868437227405312 < (Question.nanBits .f64 x y).cut t % 9223372036854775808 := by
  show 9218868437227405312 < ((t % 2) * 2 ^ 63 + 0x7ff0000000000000 + 1 + (t / 2) % (2 ^ 52 - 1)) % 9223372036854775808
  have e1 : (2 : Nat) ^ 63 = 9223372036854775808 := by decide
  have e2 : (2 : Nat) ^ 52 - 1 = 4503599627370495 := by decide
  rw [e1, e2]
  have h1 : t / 2 % 4503599627370495 < 4503599627370495 := Nat.mod_lt _ (by omega)
  have h2 : t % 2 = 0 ∨ t % 2 = 1 := by omega
  generalize t / 2 % 4503599627370495 = r at *
  generalize t % 2 = q at *
  rcases h2 with rfl | rfl
  · rw [Nat.zero_mul, Nat.zero_add, Nat.mod_eq_of_lt (by omega)]; omega
  · rw [show 1 * 9223372036854775808 + 9218868437227405312 + 1 + r = (9218868437227405312 + 1 + r) + 9223372036854775808 by omega, Nat.add_mod_right, Nat.mod_eq_of_lt (by omega)]; omega

theorem mul_none (x y : Nat) (w : World) (h : Ieee.double.mul x y = none) : ∃ nb, (∀ a, Ieee.double.order a nb = none) ∧ (binOp .mul 23 (.float .f64 x) (.float .f64 y)).run Tryd.prog w = .ok (.float .f64 nb) w.drew := by
  refine ⟨(Question.nanBits .f64 x y).cut (w.tape w.drawn (.nanBits .f64 x y)), fun a => order_nan a _ (cut_nan x y _), ?_⟩
  have h' : FloatKind.f64.format.mul x y = none := h
  simp [binOp, Op.floatArith, h', Question.forced]

set_option maxHeartbeats 400000 in
theorem under_any (b i : Int) (x : Nat) (w : World) :
    Calls Tryd.prog 20 #[.int .i64 b, .int .i64 i, .float .f64 x] w fun r w' => r = .returned (.bool (undB b i x)) ∧ Below w.heap.size w w' := by
  unfold undB
  cases hm : Ieee.double.mul x (floatOfInt .f64 i) with
  | some r =>
    have hb : ∀ w, (binOp .mul 23 (.float .f64 x) (.float .f64 (floatOfInt .f64 i))).run Tryd.prog w = .ok (.float .f64 r) w := fun w => run_float_arith w .mul _ .f64 _ _ r hm
    clear hm
    go_enter Tryd.func20, Tryd.ntmps20
    go_wp2
    go_ret
    exact ⟨rfl, Below.refl _ _⟩
  | none =>
    obtain ⟨nb, hn, hb⟩ := mul_none x (floatOfInt .f64 i) w hm
    have h1 : (FloatKind.f64.format.order (floatOfInt .f64 b) nb == some .lt) = false := by
      show (Ieee.double.order _ _ == _) = false
      rw [hn]; rfl
    have h2 : (FloatKind.f64.format.order (floatOfInt .f64 b) nb == some .eq) = false := by
      show (Ieee.double.order _ _ == _) = false
      rw [hn]; rfl
    clear hm hn
    go_enter Tryd.func20, Tryd.ntmps20
    go_wp2
    go_ret
    exact ⟨by simp, below_drewN (Below.refl _ _) 1⟩

theorem sending_any (c m : Bool) (w : World) :
    Calls Tryd.prog 21 #[.bool c, .bool m] w fun r w' => r = .returned (.int .i8 (if c = false then 1 else if m = false then 2 else 3)) ∧ w' = w := by
  cases c <;> cases m <;>
  (go_enter Tryd.func21, Tryd.ntmps21
   go_wp2
   go_ret
   exact ⟨rfl, rfl⟩)

/-- So many bytes a transaction has, and so many transactions together. -/
def szT (t : TxD) : Nat := if txOk t then (txB t).length else 0
def szL (l : List TxD) : Nat := (l.map szT).sum

theorem szT_le (t : TxD) : szT t ≤ 4096 := by
  unfold szT
  split
  · exact txB_t t (by assumption)
  · omega
theorem szL_take (l : List TxD) (k : Nat) : szL (l.take k) ≤ 4096 * k := by
  induction k generalizing l with
  | zero => simp [szL]
  | succ k ih =>
    cases l with
    | nil => simp [szL]
    | cons t l =>
      have h1 := ih l
      have h2 := szT_le t
      simp only [szL, List.take_succ_cons, List.map_cons, List.sum_cons] at h1 ⊢
      omega
theorem szL_next (l : List TxD) (k : Nat) (h : k < l.length) : szL (l.take (k + 1)) = szL (l.take k) + szT l[k] := by
  unfold szL
  rw [List.take_succ_eq_append_getElem h, List.map_append, List.sum_append]
  simp

abbrev txZ : Array Value := #[.int .u32 0, .int .u32 0, .int .i8 0, .int .u32 0, .int .i64 0, .int .i8 0, .string ⟨#[]⟩, .slice none 0 0, .slice none 0 0, .int .i32 0, .bool false, .bool false, .int .i64 0, .int .i32 0, .slice none 0 0, .slice none 0 0]

/-- A transaction laid in a new block. -/
structure Boxed (w W : World) (cs : List Value) : Prop where
  bel : Below w.heap.size w W
  row : W.heap[w.heap.size]? = some (.cells cs.toArray 49 (0, 0))

theorem boxed (w : World) (cs : List Value) : Boxed w ((w.alloc (.cells txZ 49)).setRow w.heap.size cs.toArray) cs := by
  have s1 : (w.alloc (.cells txZ 49)).heap[w.heap.size]? = some (.cells txZ 49 (0, 0)) := heap_alloc_new _ _
  have k2 : Kept (w.alloc (.cells txZ 49)) ((w.alloc (.cells txZ 49)).setRow w.heap.size cs.toArray) (fun k => k = w.heap.size) := ⟨rfl, rfl, rfl, by simp, fun k _ hn => setRow_other _ _ _ _ hn⟩
  exact ⟨(one_alloc w _).trans (k2.below (by simp) (fun k e => by omega)), setRow_heap _ _ _ _ _ _ s1⟩

theorem rq_cell1A {w : World} {cs : List Value} {r : Rq} (h : SeesRq w cs r) : cs.toArray.all (·.oneCell') = true := by
  obtain ⟨q0, q1, d0, d1, d2, a0, a1, a2, q4, q5, q6, q7, q8, e0, e1, e2, o0, o1, o2, rfl⟩ := rq_forms h
  simp [Value.oneCell']
theorem tx_cell1A {w : World} {cs : List Value} {t : TxD} (h : SeesTx w cs t) : cs.toArray.all (·.oneCell') = true := by
  obtain ⟨rc, rfl, hr⟩ := h
  obtain ⟨q0, q1, d0, d1, d2, a0, a1, a2, q4, q5, q6, q7, q8, e0, e1, e2, o0, o1, o2, rfl⟩ := rq_forms hr
  simp [Value.oneCell', txHead]

/-- The transaction at place k of a list: its sixteen cells. -/
theorem txs_row {w : World} {v : Value} {l : List TxD} (h : SeesTxs w v l) (k : Nat) (hk : k < l.length) : ∃ b off cap cs, v = .slice (some ⟨b, off, none⟩) l.length cap ∧ SeesTx w cs l[k] ∧ cs.length = 16 ∧ w.rangeAt b (off + k * 16) cs := by
  obtain ⟨b, off, cap, rc, hv, _, _, hr, hat⟩ := txs_at h k hk
  refine ⟨b, off, cap, txHead l[k] ++ rc, hv, ⟨rc, rfl, hr⟩, by simp [txHead, hr.len], fun j v hj => ?_⟩
  have hlt : j < (txHead l[k] ++ rc).length := by
    rcases Nat.lt_or_ge j (txHead l[k] ++ rc).length with h | h
    · exact h
    · rw [List.getElem?_eq_none h] at hj; cases hj
  have hl : (txHead l[k] ++ rc).length = 16 := by simp [txHead, hr.len]
  rw [hat j (by omega), List.getD_eq_getElem?_getD, hj]
  rfl

/-- What Write answers, as far as its length goes. -/
theorem write_len (t : TxD) (cs : List Value) (w : World) (hs : SeesTx w cs t) (hg : t.good) (hn : Nam w) :
    Calls Tryd.prog 26 #[.agg cs.toArray] w fun r w' => ∃ a c e, r = .returned (.tuple #[.slice a (szT t) c, .int .i64 e]) ∧ Below w.heap.size w w' := by
  obtain ⟨rc, rfl, hr⟩ := hs
  cases hok : txOk t with
  | true =>
    refine (write_good t rc w hr.live hg hn hok).mono ?_
    rintro _ w1 ⟨v, rfl, hv, b⟩
    obtain ⟨vb, vc, rfl, _⟩ := Sees.own hv
    exact ⟨vb, vc, 0, by unfold szT; rw [hok]; rfl, b⟩
  | false =>
    refine (write_no t rc w hr hg hn hok).mono ?_
    rintro _ w1 ⟨rfl, b⟩
    exact ⟨none, 0, 40, by unfold szT; rw [hok]; rfl, b⟩

set_option maxHeartbeats 2000000 in
theorem size_any (v : Value) (l : List TxD) (w : World) (h : SeesTxs w v l) (hg : ∀ t ∈ l, t.good) (hn : Nam w) (hl : l.length ≤ 1000000) :
    Calls Tryd.prog 16 #[v] w fun r w' => r = .returned (.int .i64 (szL l)) ∧ Below w.heap.size w w' := by
  obtain ⟨ao, cap, rfl, hlc, hcm⟩ := txs_shape h
  have H : Hid (SeesTxs w (.slice ao l.length cap) l ∧ (∀ t ∈ l, t.good) ∧ Nam w) := ⟨h, hg, hn⟩
  unfold maxLen at hcm
  clear h hg hn
  go_enter Tryd.func16, Tryd.ntmps16
  go_wp2_with fail
  go_loopw [3, 5, 6, 7, 10] (fun n _ _ _ i wr => ∃ k : Nat, k ≤ l.length ∧ i = .int .i64 k ∧ n = .int .i64 (szL (l.take k)) ∧ Hid (Below w.heap.size w wr)) (fun _ _ _ _ i _ => l.length - (intOf i).toNat)
  case atStart => exact ⟨0, Nat.zero_le _, rfl, rfl, Below.refl _ _⟩
  case round =>
    obtain ⟨k, hk, rfl, rfl, HB⟩ := hrel
    by_cases hlt : k < l.length
    · obtain ⟨b, off, cap', cs, hv, hs, hc16, l0⟩ := txs_row (H.out.1.below HB.out (Nat.le_refl _)) k hlt
      simp at hv
      obtain ⟨rfl, rfl⟩ := hv
      have hs1 := tx_cell1A hs
      have q16 : (Tryd.prog.info? 49).map (·.size) = some cs.length := by rw [hc16]; exact tx_size
      have q16' : (Tryd.prog.info? 49).map (·.size) = some cs.toArray.size := by rw [List.size_toArray, hc16]; exact tx_size
      have s1 : (wr.alloc (.cells txZ 49)).heap[wr.heap.size]? = some (.cells txZ 49 (0, 0)) := heap_alloc_new _ _
      have HX : Hid (Boxed wr ((wr.alloc (.cells txZ 49)).setRow wr.heap.size cs.toArray) cs ∧ SeesTx wr cs l[k] ∧ l[k].good) := ⟨boxed _ _, hs, H.out.2.1 _ (List.getElem_mem hlt)⟩
      have HN : Hid (szL (l.take (k + 1)) = szL (l.take k) + szT l[k] ∧ szL (l.take k) ≤ 4096 * k ∧ szT l[k] ≤ 4096) := ⟨szL_next l k hlt, szL_take l k, szT_le _⟩
      clear hs
      have r1 := HX.out.1.row
      go_wp2_with (first | (refine wpList_load_mid rfl 49 _ rfl b (off + k * 16) rfl cs _ l0 Tryd.underlying49 rfl q16 ?_) | (refine wpList_store_row rfl 49 _ _ rfl wr.heap.size cs.toArray rfl rfl 49 _ s1 q16' (by simp [hc16]) hs1 ?_) | (refine wpList_load_row rfl 49 _ rfl wr.heap.size rfl 49 _ (0, 0) _ r1 Tryd.underlying49 rfl q16' ?_))
      refine (write_len l[k] cs _ (HX.out.2.1.below HX.out.1.bel (Nat.le_refl _)) HX.out.2.2 (H.out.2.2.below (HB.out.trans (HX.out.1.bel.mono HB.out.size)) H.out.2.2.lt)).mono ?_
      rintro _ w2 ⟨va, vc, e, rfl, b2⟩
      have HB2 : Hid (Below w.heap.size w w2) := (HB.out.trans (HX.out.1.bel.mono HB.out.size)).trans (b2.mono (HB.out.trans (HX.out.1.bel.mono HB.out.size)).size)
      clear r1 s1 l0 b2 hs1 HX
      generalize l[k] = t at *
      obtain ⟨m, hm⟩ : ∃ m, m = szL (l.take k) := ⟨_, rfl⟩
      obtain ⟨m', hm'⟩ : ∃ m', m' = szT t := ⟨_, rfl⟩
      rw [← hm, ← hm'] at HN ⊢
      clear hm hm'
      have hn1 := HN.out.2
      go_wp2_with fail
      go_roundw
      case rel => exact ⟨k + 1, by omega, by go_num, by rw [HN.out.1]; go_num, HB2⟩
      case measure => simp [intOf]; omega
    · obtain rfl : k = l.length := by omega
      rw [List.take_length]
      go_wp2_with fail
      go_ret
      exact ⟨rfl, HB.out⟩
end Go.Proofs.YtljghfglabgckaaDoor

/- A list that rises does so from each place; a part of a list, as Go cuts it. No Go function is walked here. -/
namespace Go.Proofs.YtljghfglabgckaaDoor
open Go.RowKit
set_option maxRecDepth 8000

theorem rises_drop : ∀ (l : List TxD) (e n : Int) (k : Nat) (hk : k < l.length), rises e n l = true → rises l[k].ep l[k].n (l.drop (k + 1)) = true ∧ rises e n (l.take k) = true ∧ (e < l[k].ep ∨ (e = l[k].ep ∧ n < l[k].n))
  | [], _, _, k, hk, _ => by simp at hk
  | t :: l, e, n, k, hk, h => by
    simp only [rises, Bool.and_eq_true, decide_eq_true_eq] at h
    have hc : e < t.ep ∨ (e = t.ep ∧ n < t.n) := by
      have := h.1
      unfold zcmp at this
      split at this
      · omega
      · split at this <;> omega
    cases k with
    | zero => exact ⟨by simpa using h.2, rfl, hc⟩
    | succ k =>
      obtain ⟨h1, h2, h3⟩ := rises_drop l t.ep t.n k (by simpa using hk) h.2
      refine ⟨by simpa using h1, ?_, ?_⟩
      · simp only [List.take_succ_cons, rises, Bool.and_eq_true, decide_eq_true_eq]
        exact ⟨h.1, h2⟩
      · simp only [List.getElem_cons_succ]
        omega

/-- A part of a list, as Go cuts it. -/
theorem seesTxs_cut {w : World} {ao : Option Addr} {l : List TxD} {cap : Nat} (h : SeesTxs w (.slice ao l.length cap) l) (lo hi : Nat) (h1 : lo ≤ hi) (h2 : hi ≤ l.length) : SeesTxs w (sliced ao lo hi cap 16) ((l.take hi).drop lo) := by
  obtain ⟨cs, ⟨ao', cap', e, g1, g2, g0, g3⟩, hl, hs⟩ := h
  simp at e
  obtain ⟨rfl, _, rfl⟩ := e
  have hlen : ((cs.take hi).drop lo).length = hi - lo := by simp; omega
  refine ⟨(cs.take hi).drop lo, ?_, by simp [hl], fun i hi' hk => ?_⟩
  · unfold sliced
    by_cases hc : cap = lo
    · rw [if_pos hc]
      have : (cs.take hi).drop lo = [] := List.eq_nil_of_length_eq_zero (by rw [hlen]; omega)
      exact ⟨ao, cap - lo, by rw [hlen], by rw [hlen]; omega, by omega, fun _ => by omega, .inl this⟩
    · rw [if_neg hc]
      refine ⟨_, cap - lo, by rw [hlen], by rw [hlen]; omega, by omega, fun e => ?_, ?_⟩
      · cases ao with
        | none => have := g0 rfl; omega
        | some a => simp at e
      · rcases g3 with g3 | ⟨b, off, rfl, g3⟩
        · exact .inl (by rw [g3]; simp)
        · refine .inr ⟨b, off + lo * 16, by simp [Addr.add], fun i hi' j hj => ?_⟩
          rw [hlen] at hi'
          have := g3 (lo + i) (by omega) j hj
          rw [show off + lo * 16 + i * 16 + j = off + (lo + i) * 16 + j by rw [Nat.add_mul]; omega, this]
          simp [List.getElem_drop, List.getElem_take]
  · simp only [List.getElem_drop, List.getElem_take]
    exact hs (lo + i) (by simp at hi'; omega) (by simp at hk; omega)
end Go.Proofs.YtljghfglabgckaaDoor
