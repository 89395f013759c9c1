/- The bytes of a transaction that may be: at most 4096, each a byte. No Go function is walked here. -/
import Derived.Test.YtobnggkgpenmfaaGreatDoorWriteTJ
import Derived.Test.YtobnggkgpenmfaaGreatDoorPartsJ
import Derived.Test.YtobnggkgpenmfaaGreatDoorRisesTJ
import Derived.Laws.FloatArith
import Derived.Laws.NewFold
import Derived.Deep.MidRow
import Derived.Deep.CutRange
import Derived.Test.YtobnggkgpenmfaaGreatDoorProg
import Derived.Test.YtobnggkgpenmfaaGreatDoorLeafSumJ
import Derived.WalkLawsBesides
import Derived.Deep.Draws
import Derived.Laws.BitsAllLaws
import Derived.Test.YtobnggkgpenmfaaGreatDoorDblJ
import Derived.Test.YtobnggkgpenmfaaGreatDoorRqLJ
namespace Go.Proofs.YtobnggkgpenmfaaGreatDoor
open Go.RowKit
set_option maxRecDepth 8000

theorem acB_t (l : List EnD) (h : ∀ x ∈ l, x.id.scheme.size ≤ 24 ∧ x.id.name.size ≤ 24) : (acB l).length ≤ 57 * l.length := by
  induction l with
  | nil => simp [acB]
  | cons x l ih =>
    have e : acB (x :: l) = enB x ++ acB l := by simp [acB]
    have h1 := h x (by simp)
    have h2 := ih (fun y hy => h y (by simp [hy]))
    rw [e, List.length_append, enB, List.length_append, idB, List.length_append, txtB_len, txtB_len]
    simp only [List.length_cons, List.length_nil]
    omega
theorem idsB_t (l : List IdD) (h : ∀ x ∈ l, x.scheme.size ≤ 24 ∧ x.name.size ≤ 24) : (idsB l).length ≤ 56 * l.length := by
  induction l with
  | nil => simp [idsB]
  | cons x l ih =>
    have e : idsB (x :: l) = idB x ++ idsB l := by simp [idsB]
    have h1 := h x (by simp)
    have h2 := ih (fun y hy => h y (by simp [hy]))
    rw [e, List.length_append, idB, List.length_append, txtB_len, txtB_len, List.length_cons]
    omega

theorem encIn_t (r : Rq) (h : r.inOk = true) : (encIn r).length ≤ 403 := by
  cases r with
  | mk f n ops =>
    obtain ⟨h1, h5, hbd⟩ := inOk_inv h
    have hb := bdOk_inv hbd
    have ha := acB_t f.acl hb.2.2.2.1
    have ht := txtB_len f.path
    rw [encIn_mk]
    split
    · simp [encP, be4]; omega
    split
    · simp [encP, be4]; omega
    split
    · simp [encP, be4]; omega
    · simp [encP, be4]; omega

theorem opsB_t {n : Nat} (ops : Fin n → Rq) (hok : ∀ i, (ops i).inOk = true) : ∀ k, k ≤ n → (opsB ops k).length ≤ 403 * k
  | 0, _ => by simp [opsB]
  | k + 1, h => by
    have h1 := opsB_t ops hok k (by omega)
    have h2 := encIn_t (ops ⟨k, by omega⟩) (hok _)
    rw [opsB_next ops k (by omega), List.length_append]
    omega

theorem encOut_t (r : Rq) (hok : mayP 8 0 r = true) : (encOut r).length ≤ 3500 := by
  cases r with
  | mk f n ops =>
    obtain ⟨h1, h2, h3, h4, h5⟩ := mayP_inv hok
    have hb := bdOk_inv h3
    have ha := acB_t f.acl hb.2.2.2.1
    have hi := idsB_t f.who hb.2.2.2.2.2.2.2.2
    have ht := txtB_len f.path
    have ho := opsB_t ops h5 n (Nat.le_refl _)
    rw [encOut_mk]
    split
    · simp [encP, be4, be8]; omega
    split
    · simp [encP, be4, be8]; omega
    split
    · simp [encP, be4, be8]; omega
    split
    · simp [encP, be4, be8]; omega
    split
    · simp [encP, be4]
    split
    · simp [encP, be4, be8]
    · simp [encP, be4, be8]; omega

theorem txB_t (t : TxD) (hok : txOk t = true) : (txB t).length ≤ 4096 := by
  have hm : mayP 8 0 t.rq = true := by
    simp only [txOk, Bool.and_eq_true] at hok
    exact hok.2
  have := encOut_t t.rq hm
  simp [txB, headB, be4, be8]
  omega

theorem byts4 (n : Int) (h0 : 0 ≤ n) (h1 : n < 4294967296) : Byts (be4 n) := by
  intro x hx
  simp only [be4, List.mem_cons, List.not_mem_nil, or_false] at hx
  rcases hx with rfl | rfl | rfl | rfl <;> omega
theorem byts8 (n : Int) (h0 : 0 ≤ n) (h1 : n < 18446744073709551616) : Byts (be8 n) := by
  unfold be8
  exact (byts4 _ (by omega) (by omega)).append (byts4 _ (by omega) (by omega))
theorem byts_txt (s : ByteArray) : Byts (txt s) := by
  intro x hx
  unfold txt at hx
  obtain ⟨b, _, rfl⟩ := List.mem_map.1 hx
  have := b.toNat_lt
  omega
theorem byts_txtB (s : ByteArray) (h : s.size ≤ 2147483647) : Byts (txtB s) := by
  have := txt_len s
  exact (byts4 _ (by omega) (by omega)).append (byts_txt s)
theorem byts_one (x : Int) (h0 : 0 ≤ x) (h1 : x ≤ 255) : Byts [x] := fun y hy => by
  obtain rfl : y = x := by simpa using hy
  exact ⟨h0, h1⟩
theorem byts_idsB (l : List IdD) (h : ∀ x ∈ l, x.scheme.size ≤ 24 ∧ x.name.size ≤ 24) : Byts (idsB l) := by
  intro y hy
  unfold idsB at hy
  obtain ⟨x, hx, hxy⟩ := List.mem_flatMap.1 hy
  have h1 := h x hx
  exact ((byts_txtB x.scheme (by omega)).append (byts_txtB x.name (by omega))) y hxy
theorem byts_acB (l : List EnD) (h : ∀ x ∈ l, x.id.scheme.size ≤ 24 ∧ x.id.name.size ≤ 24) : Byts (acB l) := by
  intro y hy
  unfold acB at hy
  obtain ⟨x, hx, hxy⟩ := List.mem_flatMap.1 hy
  have h1 := h x hx
  unfold enB at hxy
  rcases List.mem_append.1 hxy with hxy | hxy
  · obtain rfl : y = x.perms % 256 := by simpa using hxy
    omega
  · exact ((byts_txtB x.id.scheme (by omega)).append (byts_txtB x.id.name (by omega))) y hxy
theorem byts_if {c : Bool} {a : List Int} (h : Byts a) : Byts (if c then a else []) := by
  cases c
  · intro x hx; simp at hx
  · exact h

theorem byts_encP (p d a v e z t o : Bool) (f : RqF) (more : List Int) (hbd : bdOk f = true) (hg : f.good) (hm : Byts more) : Byts (encP p d a v e z t o f more) := by
  have hb := bdOk_inv hbd
  have hk := hg
  unfold encP
  refine Byts.append (Byts.append (Byts.append (Byts.append (Byts.append (Byts.append (Byts.append (Byts.append (Byts.append ?_ ?_) ?_) ?_) ?_) ?_) ?_) ?_) ?_) hm
  · exact byts_one _ (by omega) (by omega)
  · exact byts_if (byts_txtB _ (by omega))
  · exact byts_if ((byts4 _ (by omega) (by omega)).append hg.byts)
  · exact byts_if ((byts4 _ (by omega) (by omega)).append (byts_acB _ hb.2.2.2.1))
  · exact byts_if (byts4 _ (by have := hg.v0; unfold up32; omega) (by have := hg.v1; unfold up32; omega))
  · exact byts_if ((byts_one _ (by unfold b2i; split <;> omega) (by unfold b2i; split <;> omega)).append (byts_one _ (by unfold b2i; split <;> omega) (by unfold b2i; split <;> omega)))
  · exact byts_if (byts8 _ (by have := hg.s0; unfold up64; omega) (by have := hg.s1; unfold up64; omega))
  · exact byts_if (byts4 _ (by have := hg.t0; unfold up32; omega) (by have := hg.t1; unfold up32; omega))
  · exact byts_if ((byts4 _ (by omega) (by omega)).append (byts_idsB _ hb.2.2.2.2.2.2.2.2))

theorem byts_encIn (r : Rq) (h : r.inOk = true) (hg : r.good) : Byts (encIn r) := by
  cases r with
  | mk f n ops =>
    obtain ⟨h1, h5, hbd⟩ := inOk_inv h
    have hn : Byts [] := fun x hx => by simp at hx
    rw [encIn_mk]
    repeat' split
    all_goals exact byts_encP _ _ _ _ _ _ _ _ f [] hbd hg.1 hn

theorem byts_opsB {n : Nat} (ops : Fin n → Rq) (hok : ∀ i, (ops i).inOk = true) (hg : ∀ i, (ops i).good) : ∀ k, k ≤ n → Byts (opsB ops k)
  | 0, _ => fun x hx => by simp [opsB] at hx
  | k + 1, h => by
    rw [opsB_next ops k (by omega)]
    exact (byts_opsB ops hok hg k (by omega)).append (byts_encIn _ (hok _) (hg _))

theorem byts_encOut (r : Rq) (hok : mayP 8 0 r = true) (hg : r.good) : Byts (encOut r) := by
  cases r with
  | mk f n ops =>
    obtain ⟨h1, h2, h3, h4, h5⟩ := mayP_inv hok
    have hn : Byts [] := fun x hx => by simp at hx
    have ho : Byts (be4 (n : Int) ++ opsB ops n) := (byts4 _ (by omega) (by omega)).append (byts_opsB ops h5 hg.2.2 n (Nat.le_refl _))
    rw [encOut_mk]
    repeat' split
    all_goals first | exact byts_encP _ _ _ _ _ _ _ _ f [] h3 hg.1 hn | exact byts_encP _ _ _ _ _ _ _ _ f _ h3 hg.1 ho

theorem byts_txB (t : TxD) (hok : txOk t = true) (hg : t.good) : Byts (txB t) := by
  have hm : mayP 8 0 t.rq = true := by
    simp only [txOk, Bool.and_eq_true] at hok
    exact hok.2
  unfold txB headB
  refine Byts.append (Byts.append (Byts.append (Byts.append (Byts.append ?_ ?_) ?_) ?_) ?_) (byts_encOut t.rq hm hg.rq)
  · exact byts4 _ hg.e0 (by have := hg.e1; omega)
  · exact byts4 _ hg.n0 (by have := hg.n1; omega)
  · exact byts_one _ (by omega) (by omega)
  · exact byts4 _ hg.b0 (by have := hg.b1; omega)
  · exact byts8 _ (by have := hg.m0; unfold up64; omega) (by have := hg.m1; unfold up64; omega)
end Go.Proofs.YtobnggkgpenmfaaGreatDoor

/- What choose.Under, choose.Size and choose.sending answer, for all that came in. -/
namespace Go.Proofs.YtobnggkgpenmfaaGreatDoor
open Go.RowKit
set_option maxRecDepth 8000

/-- Are so many bytes within x times those of the image? -/
def undB (b i : Int) (x : Nat) : Bool :=
  match Ieee.double.mul x (floatOfInt .f64 i) with
  | some r => Ieee.double.order (floatOfInt .f64 b) r == some .lt || Ieee.double.order (floatOfInt .f64 b) r == some .eq
  | none => false

theorem order_nan (a x : Nat) (h : 9218868437227405312 < x % 9223372036854775808) : Ieee.double.order a x = none := by
  have : ∃ s f, Ieee.double.read x = .nan s f := by
    unfold Ieee.Format.read
    have e1 : Ieee.double.signWeight = 9223372036854775808 := by decide
    have e2 : Ieee.double.binade = 4503599627370496 := by decide
    have e3 : Ieee.double.infRung = 9218868437227405312 := by decide
    simp only [e1, e2, e3]
    rw [if_neg (by omega), if_neg (by omega), if_neg (by omega)]
    exact ⟨_, _, rfl⟩
  obtain ⟨s, f, e⟩ := this
  unfold Ieee.Format.order
  rw [e]
  cases Ieee.double.read a <;> rfl

theorem cut_nan (x y t : Nat) : 9218868437227405312 < (Question.nanBits .f64 x y).cut t % 9223372036854775808 := by
  show 9218868437227405312 < ((t % 2) * 2 ^ 63 + 0x7ff0000000000000 + 1 + (t / 2) % (2 ^ 52 - 1)) % 9223372036854775808
  have e1 : (2 : Nat) ^ 63 = 9223372036854775808 := by decide
  have e2 : (2 : Nat) ^ 52 - 1 = 4503599627370495 := by decide
  rw [e1, e2]
  have h1 : t / 2 % 4503599627370495 < 4503599627370495 := Nat.mod_lt _ (by omega)
  have h2 : t % 2 = 0 ∨ t % 2 = 1 := by omega
  generalize t / 2 % 4503599627370495 = r at *
  generalize t % 2 = q at *
  rcases h2 with rfl | rfl
  · rw [Nat.zero_mul, Nat.zero_add, Nat.mod_eq_of_lt (by omega)]; omega
  · rw [show 1 * 9223372036854775808 + 9218868437227405312 + 1 + r = (9218868437227405312 + 1 + r) + 9223372036854775808 by omega, Nat.add_mod_right, Nat.mod_eq_of_lt (by omega)]; omega

theorem mul_none (x y : Nat) (w : World) (h : Ieee.double.mul x y = none) : ∃ nb, (∀ a, Ieee.double.order a nb = none) ∧ (binOp .mul 26 (.float .f64 x) (.float .f64 y)).run Tryz.prog w = .ok (.float .f64 nb) w.drew := by
  refine ⟨(Question.nanBits .f64 x y).cut (w.tape w.drawn (.nanBits .f64 x y)), fun a => order_nan a _ (cut_nan x y _), ?_⟩
  have h' : FloatKind.f64.format.mul x y = none := h
  simp [binOp, Op.floatArith, h', Question.forced]

set_option maxHeartbeats 400000 in
theorem under_any (b i : Int) (x : Nat) (w : World) :
    Calls Tryz.prog 15 #[.int .i64 b, .int .i64 i, .float .f64 x] w fun r w' => r = .returned (.bool (undB b i x)) ∧ Below w.heap.size w w' := by
  unfold undB
  cases hm : Ieee.double.mul x (floatOfInt .f64 i) with
  | some r =>
    have hb : ∀ w, (binOp .mul 26 (.float .f64 x) (.float .f64 (floatOfInt .f64 i))).run Tryz.prog w = .ok (.float .f64 r) w := fun w => run_float_arith w .mul _ .f64 _ _ r hm
    clear hm
    go_enter Tryz.func15, Tryz.ntmps15
    go_wp2
    go_ret
    exact ⟨rfl, Below.refl _ _⟩
  | none =>
    obtain ⟨nb, hn, hb⟩ := mul_none x (floatOfInt .f64 i) w hm
    have h1 : (FloatKind.f64.format.order (floatOfInt .f64 b) nb == some .lt) = false := by
      show (Ieee.double.order _ _ == _) = false
      rw [hn]; rfl
    have h2 : (FloatKind.f64.format.order (floatOfInt .f64 b) nb == some .eq) = false := by
      show (Ieee.double.order _ _ == _) = false
      rw [hn]; rfl
    clear hm hn
    go_enter Tryz.func15, Tryz.ntmps15
    go_wp2
    go_ret
    exact ⟨by simp, below_drewN (Below.refl _ _) 1⟩

theorem sending_any (c m : Bool) (w : World) :
    Calls Tryz.prog 33 #[.bool c, .bool m] w fun r w' => r = .returned (.int .i8 (if c = false then 1 else if m = false then 2 else 3)) ∧ w' = w := by
  cases c <;> cases m <;>
  (go_enter Tryz.func33, Tryz.ntmps33
   go_wp2
   go_ret
   exact ⟨rfl, rfl⟩)

/-- So many bytes a transaction has, and so many transactions together. -/
def szT (t : TxD) : Nat := if txOk t then (txB t).length else 0
def szL (l : List TxD) : Nat := (l.map szT).sum

theorem szT_le (t : TxD) : szT t ≤ 4096 := by
  unfold szT
  split
  · exact txB_t t (by assumption)
  · omega
theorem szL_take (l : List TxD) (k : Nat) : szL (l.take k) ≤ 4096 * k := by
  induction k generalizing l with
  | zero => simp [szL]
  | succ k ih =>
    cases l with
    | nil => simp [szL]
    | cons t l =>
      have h1 := ih l
      have h2 := szT_le t
      simp only [szL, List.take_succ_cons, List.map_cons, List.sum_cons] at h1 ⊢
      omega
theorem szL_next (l : List TxD) (k : Nat) (h : k < l.length) : szL (l.take (k + 1)) = szL (l.take k) + szT l[k] := by
  unfold szL
  rw [List.take_succ_eq_append_getElem h, List.map_append, List.sum_append]
  simp

abbrev txZ : Array Value := #[.int .u32 0, .int .u32 0, .int .i8 0, .int .u32 0, .int .i64 0, .int .i8 0, .string ⟨#[]⟩, .slice none 0 0, .slice none 0 0, .int .i32 0, .bool false, .bool false, .int .i64 0, .int .i32 0, .slice none 0 0, .slice none 0 0]

/-- A transaction laid in a new block. -/
structure Boxed (w W : World) (cs : List Value) : Prop where
  bel : Below w.heap.size w W
  row : W.heap[w.heap.size]? = some (.cells cs.toArray 49 (0, 0))

theorem boxed (w : World) (cs : List Value) : Boxed w ((w.alloc (.cells txZ 49)).setRow w.heap.size cs.toArray) cs := by
  have s1 : (w.alloc (.cells txZ 49)).heap[w.heap.size]? = some (.cells txZ 49 (0, 0)) := heap_alloc_new _ _
  have k2 : Kept (w.alloc (.cells txZ 49)) ((w.alloc (.cells txZ 49)).setRow w.heap.size cs.toArray) (fun k => k = w.heap.size) := ⟨rfl, rfl, rfl, by simp, fun k _ hn => setRow_other _ _ _ _ hn⟩
  exact ⟨(one_alloc w _).trans (k2.below (by simp) (fun k e => by omega)), setRow_heap _ _ _ _ _ _ s1⟩

theorem rq_cell1A {w : World} {cs : List Value} {r : Rq} (h : SeesRq w cs r) : cs.toArray.all (·.oneCell') = true := by
  obtain ⟨q0, q1, d0, d1, d2, a0, a1, a2, q4, q5, q6, q7, q8, e0, e1, e2, o0, o1, o2, rfl⟩ := rq_forms h
  simp [Value.oneCell']
theorem tx_cell1A {w : World} {cs : List Value} {t : TxD} (h : SeesTx w cs t) : cs.toArray.all (·.oneCell') = true := by
  obtain ⟨rc, rfl, hr⟩ := h
  obtain ⟨q0, q1, d0, d1, d2, a0, a1, a2, q4, q5, q6, q7, q8, e0, e1, e2, o0, o1, o2, rfl⟩ := rq_forms hr
  simp [Value.oneCell', txHead]

/-- The transaction at place k of a list: its sixteen cells. -/
theorem txs_row {w : World} {v : Value} {l : List TxD} (h : SeesTxs w v l) (k : Nat) (hk : k < l.length) : ∃ b off cap cs, v = .slice (some ⟨b, off, none⟩) l.length cap ∧ SeesTx w cs l[k] ∧ cs.length = 16 ∧ w.rangeAt b (off + k * 16) cs := by
  obtain ⟨b, off, cap, rc, hv, _, _, hr, hat⟩ := txs_at h k hk
  refine ⟨b, off, cap, txHead l[k] ++ rc, hv, ⟨rc, rfl, hr⟩, by simp [txHead, hr.len], fun j v hj => ?_⟩
  have hlt : j < (txHead l[k] ++ rc).length := by
    rcases Nat.lt_or_ge j (txHead l[k] ++ rc).length with h | h
    · exact h
    · rw [List.getElem?_eq_none h] at hj; cases hj
  have hl : (txHead l[k] ++ rc).length = 16 := by simp [txHead, hr.len]
  rw [hat j (by omega), List.getD_eq_getElem?_getD, hj]
  rfl

/-- What Write answers, as far as its length goes. -/
theorem write_len (t : TxD) (cs : List Value) (w : World) (hs : SeesTx w cs t) (hg : t.good) (hn : Nam w) :
    Calls Tryz.prog 27 #[.agg cs.toArray] w fun r w' => ∃ a c e, r = .returned (.tuple #[.slice a (szT t) c, .int .i64 e]) ∧ Below w.heap.size w w' := by
  obtain ⟨rc, rfl, hr⟩ := hs
  cases hok : txOk t with
  | true =>
    refine (write_good t rc w hr.live hg hn hok).mono ?_
    rintro _ w1 ⟨v, rfl, hv, b⟩
    obtain ⟨vb, vc, rfl, _⟩ := Sees.own hv
    exact ⟨vb, vc, 0, by unfold szT; rw [hok]; rfl, b⟩
  | false =>
    refine (write_no t rc w hr hg hn hok).mono ?_
    rintro _ w1 ⟨rfl, b⟩
    exact ⟨none, 0, 40, by unfold szT; rw [hok]; rfl, b⟩

set_option maxHeartbeats 2000000 in
theorem size_any (v : Value) (l : List TxD) (w : World) (h : SeesTxs w v l) (hg : ∀ t ∈ l, t.good) (hn : Nam w) (hl : l.length ≤ 1000000) :
    Calls Tryz.prog 13 #[v] w fun r w' => r = .returned (.int .i64 (szL l)) ∧ Below w.heap.size w w' := by
  obtain ⟨ao, cap, rfl, hlc, hcm⟩ := txs_shape h
  have H : Hid (SeesTxs w (.slice ao l.length cap) l ∧ (∀ t ∈ l, t.good) ∧ Nam w) := ⟨h, hg, hn⟩
  unfold maxLen at hcm
  clear h hg hn
  go_enter Tryz.func13, Tryz.ntmps13
  go_wp2_with fail
  go_loopw [3, 5, 6, 7, 10] (fun n _ _ _ i wr => ∃ k : Nat, k ≤ l.length ∧ i = .int .i64 k ∧ n = .int .i64 (szL (l.take k)) ∧ Hid (Below w.heap.size w wr)) (fun _ _ _ _ i _ => l.length - (intOf i).toNat)
  case atStart => exact ⟨0, Nat.zero_le _, rfl, rfl, Below.refl _ _⟩
  case round =>
    obtain ⟨k, hk, rfl, rfl, HB⟩ := hrel
    by_cases hlt : k < l.length
    · obtain ⟨b, off, cap', cs, hv, hs, hc16, l0⟩ := txs_row (H.out.1.below HB.out (Nat.le_refl _)) k hlt
      simp at hv
      obtain ⟨rfl, rfl⟩ := hv
      have hs1 := tx_cell1A hs
      have q16 : (Tryz.prog.info? 49).map (·.size) = some cs.length := by rw [hc16]; exact tx_size
      have q16' : (Tryz.prog.info? 49).map (·.size) = some cs.toArray.size := by rw [List.size_toArray, hc16]; exact tx_size
      have s1 : (wr.alloc (.cells txZ 49)).heap[wr.heap.size]? = some (.cells txZ 49 (0, 0)) := heap_alloc_new _ _
      have HX : Hid (Boxed wr ((wr.alloc (.cells txZ 49)).setRow wr.heap.size cs.toArray) cs ∧ SeesTx wr cs l[k] ∧ l[k].good) := ⟨boxed _ _, hs, H.out.2.1 _ (List.getElem_mem hlt)⟩
      have HN : Hid (szL (l.take (k + 1)) = szL (l.take k) + szT l[k] ∧ szL (l.take k) ≤ 4096 * k ∧ szT l[k] ≤ 4096) := ⟨szL_next l k hlt, szL_take l k, szT_le _⟩
      clear hs
      have r1 := HX.out.1.row
      go_wp2_with (first | (refine wpList_load_mid rfl 49 _ rfl b (off + k * 16) rfl cs _ l0 Tryz.underlying49 rfl q16 ?_) | (refine wpList_store_row rfl 49 _ _ rfl wr.heap.size cs.toArray rfl rfl 49 _ s1 q16' (by simp [hc16]) hs1 ?_) | (refine wpList_load_row rfl 49 _ rfl wr.heap.size rfl 49 _ (0, 0) _ r1 Tryz.underlying49 rfl q16' ?_))
      refine (write_len l[k] cs _ (HX.out.2.1.below HX.out.1.bel (Nat.le_refl _)) HX.out.2.2 (H.out.2.2.below (HB.out.trans (HX.out.1.bel.mono HB.out.size)) H.out.2.2.lt)).mono ?_
      rintro _ w2 ⟨va, vc, e, rfl, b2⟩
      have HB2 : Hid (Below w.heap.size w w2) := (HB.out.trans (HX.out.1.bel.mono HB.out.size)).trans (b2.mono (HB.out.trans (HX.out.1.bel.mono HB.out.size)).size)
      clear r1 s1 l0 b2 hs1 HX
      generalize l[k] = t at *
      obtain ⟨m, hm⟩ : ∃ m, m = szL (l.take k) := ⟨_, rfl⟩
      obtain ⟨m', hm'⟩ : ∃ m', m' = szT t := ⟨_, rfl⟩
      rw [← hm, ← hm'] at HN ⊢
      clear hm hm'
      have hn1 := HN.out.2
      go_wp2_with fail
      go_roundw
      case rel => exact ⟨k + 1, by omega, by go_num, by rw [HN.out.1]; go_num, HB2⟩
      case measure => simp [intOf]; omega
    · obtain rfl : k = l.length := by omega
      rw [List.take_length]
      go_wp2_with fail
      go_ret
      exact ⟨rfl, HB.out⟩
end Go.Proofs.YtobnggkgpenmfaaGreatDoor

/- What the document's own Bits (lagoonref01) answers: a float's bits, and of everything that is not a number the one form. -/
namespace Go.Proofs.YtobnggkgpenmfaaGreatDoor
open Ieee
open Go.RowKit (intOf Hid)
set_option maxRecDepth 8000

theorem read_neg (y : Nat) (h : y < 9223372036854775808) : double.read (9223372036854775808 + y) = (double.read y).opposite := by
  unfold Format.read
  simp only [dSign, dBin, dInf, dLeast]
  have e1 : (9223372036854775808 + y) / 9223372036854775808 = 1 := by omega
  have e2 : (9223372036854775808 + y) % 9223372036854775808 = y := by omega
  have e3 : y / 9223372036854775808 = 0 := by omega
  have e4 : y % 9223372036854775808 = y := by omega
  rw [e1, e2, e3, e4]
  by_cases c1 : y < 4503599627370496
  · rw [if_pos c1, if_pos c1]; rfl
  · rw [if_neg c1, if_neg c1]
    by_cases c2 : y < 9218868437227405312
    · rw [if_pos c2, if_pos c2]; rfl
    · rw [if_neg c2, if_neg c2]
      by_cases c3 : y = 9218868437227405312
      · rw [if_pos c3, if_pos c3]; rfl
      · rw [if_neg c3, if_neg c3]; rfl

/-- Every word of a number that is neither nought nor infinite, without its sign. -/
theorem wd_of (y : Nat) (h : y < 9218868437227405312) : ∃ q m, Can q m ∧ y = wd q m := by
  by_cases c : y < 9007199254740992
  · exact ⟨0, y, ⟨by omega, c, .inl rfl⟩, by unfold wd; omega⟩
  · exact ⟨y / 4503599627370496 - 1, 4503599627370496 + y % 4503599627370496, ⟨by omega, by omega, .inr (by omega)⟩, by unfold wd; omega⟩

theorem can_nought : Can 0 0 := ⟨by omega, by omega, .inl rfl⟩
theorem nought_wd : (0 : Nat) = wd 0 0 := by decide

theorem cmp_lt {a b : Nat} (h : a < b) : compare a b = .lt := by simp [Nat.compare_eq_lt, h]
theorem cmp_gt {a b : Nat} (h : b < a) : compare a b = .gt := by simp [Nat.compare_eq_gt, h]

theorem order_lt {q m q' m' : Nat} (h : Can q m) (h' : Can q' m') (hl : wd q m < wd q' m') : double.order (wd q m) (wd q' m') = some .lt := by rw [order_wd h h', cmp_lt hl]
theorem order_gt {q m q' m' : Nat} (h : Can q m) (h' : Can q' m') (hl : wd q' m' < wd q m) : double.order (wd q m) (wd q' m') = some .gt := by rw [order_wd h h', cmp_gt hl]
theorem order_self {q m : Nat} (h : Can q m) : double.order (wd q m) (wd q m) = some .eq := by rw [order_wd h h]; simp

theorem order_neg {q m : Nat} (h : Can q m) (hm : m ≠ 0) : double.order (9223372036854775808 + wd q m) 0 = some .lt := by
  have hw : wd q m < 9223372036854775808 := by obtain ⟨h1, h2, h3⟩ := h; unfold wd; omega
  unfold Format.order
  rw [read_neg _ hw, read_wd h]
  have h0 := read_wd can_nought
  rw [← nought_wd] at h0
  rw [h0]
  simp only [Datum.opposite, Datum.order]
  refine congrArg some ?_
  have e1 : ((q : Int) - 1074 - min ((q : Int) - 1074) (((0 : Nat) : Int) - 1074)).toNat = q := by omega
  rw [e1]
  have hp : 0 < m * 2 ^ q := Nat.mul_pos (by omega) (Nat.two_pow_pos q)
  have : Ieee.signed (!false) m q < Ieee.signed false 0 ((((0 : Nat) : Int) - 1074 - min ((q : Int) - 1074) (((0 : Nat) : Int) - 1074)).toNat) := by
    simp only [Ieee.signed, Bool.not_false, if_true, Bool.false_eq_true, if_false, Nat.shiftLeft_eq, Nat.zero_mul]
    omega
  simp only [compare, compareOfLessAndEq]
  rw [if_pos this]

theorem order_neg_self {q m : Nat} (h : Can q m) : double.order (9223372036854775808 + wd q m) (9223372036854775808 + wd q m) = some .eq := by
  have hw : wd q m < 9223372036854775808 := by obtain ⟨h1, h2, h3⟩ := h; unfold wd; omega
  unfold Format.order
  rw [read_neg _ hw, read_wd h]
  simp only [Datum.opposite, Datum.order]
  refine congrArg some ?_
  simp only [compare, compareOfLessAndEq]
  simp

theorem neg_xor (y : Nat) (h : y < 9223372036854775808) : Op.negFloat .f64 (9223372036854775808 + y) = y := by
  unfold Op.negFloat
  have e : 2 ^ (FloatKind.f64.format.exponentBits + FloatKind.f64.format.fractionBits) = 9223372036854775808 := by decide
  rw [e]
  have e1 : (9223372036854775808 : Nat) = 2 ^ 63 := by decide
  have e2 : 9223372036854775808 + y = 9223372036854775808 ||| y := (nat_join 63 9223372036854775808 y (by decide) (by omega)).symm
  rw [e2, e1]
  apply Nat.eq_of_testBit_eq
  intro i
  rw [Nat.testBit_xor, Nat.testBit_or, Nat.testBit_two_pow]
  by_cases hi : 63 = i
  · subst hi
    rw [Nat.testBit_lt_two_pow (by omega)]
    simp
  · simp [hi]

section
variable (w : World)

end
end Go.Proofs.YtobnggkgpenmfaaGreatDoor

/- The document's own Bits at numbers that are neither nought nor infinite, from the least exponent on: their bits. -/
namespace Go.Proofs.YtobnggkgpenmfaaGreatDoor
open Ieee
open Go.RowKit (intOf Hid)
set_option maxRecDepth 8000

theorem mul_over {m : Nat} (hm : 4503599627370496 ≤ m) (h2 : m < 9007199254740992) : double.mul (wd 2045 m) 4611686018427387904 = some 9218868437227405312 := by
  unfold Format.mul
  rw [two_wd, read_wd ⟨by omega, h2, .inr hm⟩, read_wd can_two]
  simp only [Datum.product, Option.map_some, Format.write]
  refine congrArg some ?_
  have e : (4503599627370496 : Nat) = 2 ^ 52 := by decide
  have hl : m.log2 = 52 := (Nat.log2_eq_iff (by omega)).2 ⟨by omega, by omega⟩
  have hl2 : (m * 4503599627370496).log2 = 104 := by rw [e, log2_shift m 52 (by omega), hl]
  unfold Format.nearest
  rw [if_neg (by omega)]
  simp only [dLeast, dFrac, dBin, dInf]
  rw [hl2]
  have hx : max (((2045 : Nat) : Int) - 1074 + (((1023 : Nat) : Int) - 1074) + ((104 : Nat) : Int) - ((52 : Nat) : Int)) (-1074) = 972 := by decide
  rw [hx]
  have e1 : (((2045 : Nat) : Int) - 1074 + (((1023 : Nat) : Int) - 1074) - 972).toNat = 0 := by decide
  have e2 : ((972 : Int) - (((2045 : Nat) : Int) - 1074 + (((1023 : Nat) : Int) - 1074))).toNat = 52 := by decide
  have e3 : ((972 : Int) - -1074).toNat = 2046 := by decide
  have c := cut_exact m 52 (by omega)
  rw [← e] at c
  rw [show (false ^^ false) = false from rfl, e1, e2, e3, Nat.shiftLeft_zero, c, Nat.min_eq_right (by omega)]
  rfl

theorem inf_order {q m : Nat} (h : Can q m) : double.order 9218868437227405312 (wd q m) = some .gt := by
  have hr : double.read 9218868437227405312 = .infinity false := by decide
  unfold Format.order
  rw [hr, read_wd h]
  rfl

/-- Twice a number that is neither nought nor infinite is another one. -/
theorem twice {q m : Nat} (h : Can q m) (hm : m ≠ 0) : ∃ z, double.mul (wd q m) 4611686018427387904 = some z ∧ double.order z (wd q m) = some .gt := by
  obtain ⟨h1, h2, h3⟩ := h
  by_cases c : 4503599627370496 ≤ m
  · by_cases c2 : q + 1 ≤ 2045
    · exact ⟨_, mul_two ⟨h1, h2, h3⟩ c c2, order_gt ⟨c2, h2, .inr c⟩ ⟨h1, h2, h3⟩ (by unfold wd; omega)⟩
    · obtain rfl : q = 2045 := by omega
      exact ⟨_, mul_over c h2, inf_order ⟨h1, h2, h3⟩⟩
  · obtain rfl : q = 0 := by omega
    exact ⟨_, mul_two_sub (by omega) hm, order_gt ⟨by omega, by omega, .inl rfl⟩ ⟨h1, h2, h3⟩ (by unfold wd; omega)⟩

theorem ge_two {q m : Nat} (h : Can q m) (hq : 1023 ≤ q) : (FloatKind.f64.format.order (wd q m) 4611686018427387904 == some .gt || FloatKind.f64.format.order (wd q m) 4611686018427387904 == some .eq) = true := by
  have e : FloatKind.f64.format.order (wd q m) 4611686018427387904 = some (compare (wd q m) 4611686018427387904) := by
    show double.order _ _ = _
    rw [two_wd]; exact order_wd h can_two
  rw [e]
  obtain ⟨h1, h2, h3⟩ := h
  have : 4611686018427387904 ≤ wd q m := by unfold wd; omega
  by_cases c : 4611686018427387904 < wd q m
  · rw [cmp_gt c]; rfl
  · have e2 : wd q m = 4611686018427387904 := by omega
    rw [e2]; decide

theorem lt_two {q m : Nat} (h : Can q m) (hq : q < 1023) : (FloatKind.f64.format.order (wd q m) 4611686018427387904 == some .gt || FloatKind.f64.format.order (wd q m) 4611686018427387904 == some .eq) = false := by
  have e : FloatKind.f64.format.order (wd q m) 4611686018427387904 = some .lt := by
    show double.order _ _ = _
    rw [two_wd]
    obtain ⟨h1, h2, h3⟩ := h
    exact order_lt ⟨h1, h2, h3⟩ can_two (by unfold wd; omega)
  rw [e]; rfl

theorem lt_one {q m : Nat} (h : Can q m) (hq : q < 1022) : (FloatKind.f64.format.order (wd q m) 4607182418800017408 == some .lt) = true := by
  have e : FloatKind.f64.format.order (wd q m) 4607182418800017408 = some .lt := by
    show double.order _ _ = _
    rw [one_wd]
    obtain ⟨h1, h2, h3⟩ := h
    exact order_lt ⟨h1, h2, h3⟩ can_one (by unfold wd; omega)
  rw [e]; rfl

theorem ge_one {m : Nat} (h : Can 1022 m) : (FloatKind.f64.format.order (wd 1022 m) 4607182418800017408 == some .lt) = false := by
  have e : FloatKind.f64.format.order (wd 1022 m) 4607182418800017408 = some (compare (wd 1022 m) 4607182418800017408) := by
    show double.order _ _ = _
    rw [one_wd]; exact order_wd h can_one
  rw [e]
  obtain ⟨h1, h2, h3⟩ := h
  have hge : 4607182418800017408 ≤ wd 1022 m := by unfold wd; omega
  by_cases c : 4607182418800017408 < wd 1022 m
  · rw [cmp_gt c]; rfl
  · have e2 : wd 1022 m = 4607182418800017408 := by omega
    rw [e2]; decide

/-- What stands behind the point of a number from 1 to 2: its fraction. -/
theorem frac_of {m : Nat} (h0 : 4503599627370496 ≤ m) (h1 : m < 9007199254740992) : ∃ a b, double.sub (wd 1022 m) 4607182418800017408 = some a ∧ double.mul a 4841369599423283200 = some b ∧ floatToIntVal .f64 b .u64 = some ((m - 4503599627370496 : Nat) : Int) := by
  by_cases c : m = 4503599627370496
  · subst c
    exact ⟨0, 0, sub_one_nought, mul_nought, int_nought⟩
  · have := scale_back (f := m - 4503599627370496) (by omega) (by omega)
    exact ⟨_, _, sub_one (by omega) h1, this.1, this.2⟩

theorem ret_u64 {a b : Int} (h : a = b) : Ending.returned (.int .u64 a) = .returned (.int .u64 b) := by rw [h]

theorem gt_nought {q m : Nat} (h : Can q m) (hm : m ≠ 0) : double.order (wd q m) 0 = some .gt := by
  have hl : wd 0 0 < wd q m := by
    have e : wd 0 0 = 0 := by decide
    rw [e]
    unfold wd
    omega
  have := order_gt h can_nought hl
  rw [← nought_wd] at this
  exact this

/-- The word in a slot: for a loop's measure. -/
def wordOf : Value → Nat
  | .float _ b => b
  | _ => 0

/-- What a number below the least exponent is behind k doublings. -/
def sq (m k : Nat) : Nat := k - (52 - m.log2)
def sm (m k : Nat) : Nat := m * 2 ^ (min k (52 - m.log2))

theorem log2_sub {m : Nat} (h0 : m ≠ 0) (h1 : m < 4503599627370496) : m.log2 ≤ 51 := by have := (Nat.log2_lt h0 (k := 52)).2 (by omega); omega

theorem sm_top {m k : Nat} (hk : 52 - m.log2 ≤ k) : sm m k = m * 2 ^ (52 - m.log2) := by unfold sm; rw [Nat.min_eq_right hk]

theorem sm_low {m k : Nat} (hk : k ≤ 52 - m.log2) : sm m k = m * 2 ^ k := by unfold sm; rw [Nat.min_eq_left hk]

theorem sm_small {m k : Nat} (h0 : m ≠ 0) (h1 : m < 4503599627370496) (hk : k < 52 - m.log2) : sm m k < 4503599627370496 ∧ sm m k ≠ 0 := by
  have hL := log2_sub h0 h1
  rw [sm_low (by omega)]
  have a1 : m < 2 ^ (m.log2 + 1) := Nat.lt_log2_self
  have a2 : m * 2 ^ k < 2 ^ (m.log2 + 1) * 2 ^ k := Nat.mul_lt_mul_of_pos_right a1 (Nat.two_pow_pos _)
  rw [← Nat.pow_add] at a2
  have a3 : 2 ^ (m.log2 + 1 + k) ≤ 2 ^ 52 := Nat.pow_le_pow_right (by omega) (by omega)
  have a4 : (2 : Nat) ^ 52 = 4503599627370496 := by decide
  have a5 : m * 2 ^ k ≠ 0 := Nat.mul_ne_zero h0 (by have := Nat.two_pow_pos k; omega)
  exact ⟨by omega, a5⟩

theorem sub_can {m k : Nat} (h0 : m ≠ 0) (h1 : m < 4503599627370496) (hk : k ≤ 1022) : Can (sq m k) (sm m k) := by
  have hL := log2_sub h0 h1
  by_cases c : k < 52 - m.log2
  · have := sm_small h0 h1 c
    exact ⟨by unfold sq; omega, by omega, .inl (by unfold sq; omega)⟩
  · rw [sm_top (by omega)]
    exact ⟨by unfold sq; omega, up_lt (by omega), .inr (up_ge h0 (by omega))⟩

theorem sub_step {m k : Nat} (h0 : m ≠ 0) (h1 : m < 4503599627370496) (hk : k < 1022) : double.mul (wd (sq m k) (sm m k)) 4611686018427387904 = some (wd (sq m (k + 1)) (sm m (k + 1))) := by
  have hL := log2_sub h0 h1
  by_cases c : k < 52 - m.log2
  · have hs := sm_small h0 h1 c
    have e1 : sq m k = 0 := by unfold sq; omega
    have e2 : sq m (k + 1) = 0 := by unfold sq; omega
    have e3 : sm m (k + 1) = 2 * sm m k := by
      rw [sm_low (by omega), sm_low (by omega), Nat.pow_succ, ← Nat.mul_assoc, Nat.mul_comm]
    rw [e1, e2, e3]
    exact mul_two_sub hs.1 hs.2
  · have e1 : sq m (k + 1) = sq m k + 1 := by unfold sq; omega
    have e2 : sm m (k + 1) = sm m k := by rw [sm_top (by omega), sm_top (by omega)]
    rw [e1, e2]
    exact mul_two (sub_can h0 h1 (by omega)) (by rw [sm_top (by omega)]; exact up_ge h0 (by omega)) (by unfold sq; omega)

theorem sub_end {m k : Nat} (h0 : m ≠ 0) (h1 : m < 4503599627370496) (hk : k = 1022) : ∃ b, double.mul (wd (sq m k) (sm m k)) 4841369599423283200 = some b ∧ floatToIntVal .f64 b .u64 = some (m : Int) := by
  have hL := log2_sub h0 h1
  have e1 : sq m k = 970 + m.log2 := by unfold sq; omega
  rw [e1, sm_top (by omega)]
  have := scale_back h0 h1
  exact ⟨_, this.1, this.2⟩

theorem sub_start (m : Nat) : sq m 0 = 0 ∧ sm m 0 = m := by
  constructor
  · unfold sq; omega
  · unfold sm; simp

end Go.Proofs.YtobnggkgpenmfaaGreatDoor

/- What the document's own bytes of whole numbers are: digits and Int32 of lagoonref01. -/
namespace Go.Proofs.YtobnggkgpenmfaaGreatDoor
open Go.RowKit
set_option maxRecDepth 8000

/-- The lowest m digits to the base 256, the highest first. -/
def digs : Nat → Int → List Int
  | 0, _ => []
  | m + 1, n => digs m (n / 256) ++ [n % 256]

theorem digs_len (m : Nat) (n : Int) : (digs m n).length = m := by
  induction m generalizing n with
  | zero => rfl
  | succ m ih => simp [digs, ih]

theorem digs_byts (m : Nat) (n : Int) : Byts (digs m n) := by
  induction m generalizing n with
  | zero => intro x hx; simp [digs] at hx
  | succ m ih =>
    refine (ih _).append ?_
    intro x hx
    simp at hx
    omega

theorem digs4 (n : Int) (h0 : 0 ≤ n) (h1 : n < 4294967296) : digs 4 n = be4 n := by
  simp only [digs, be4, List.nil_append, List.cons_append, List.cons.injEq, and_true]
  omega

theorem digs8 (n : Int) (h0 : 0 ≤ n) (h1 : n ≤ 18446744073709551615) : digs 8 n = be8 n := by
  simp only [digs, be8, be4, List.nil_append, List.cons_append, List.cons.injEq, and_true]
  omega

theorem drop_set {zs : List Int} {k : Nat} (x : Int) (hk : k < zs.length) : (zs.set k x).drop k = x :: zs.drop (k + 1) := by
  rw [List.drop_eq_getElem_cons (by simpa using hk), List.drop_set_of_lt (by omega)]
  simp

set_option maxHeartbeats 400000 in
theorem digits_any (n : Int) (m : Nat) (w : World) (hm : m ≤ 8) (h0 : 0 ≤ n) (h1 : n ≤ 18446744073709551615) :
    Calls Tryz.prog 85 #[.int .u64 n, .int .i64 m] w fun e w' => ∃ v', e = .returned v' ∧ Owns w' w.heap.size v' (digs m n) ∧ Below w.heap.size w w' := by
  obtain ⟨i0, hi, hz0, hz1, hz2⟩ := info_parts Tryz.infoByte
  go_enter Tryz.func85, Tryz.ntmps85
  go_wp2_with (at_make; refine wpList_make_full _ rfl _ _ 42 rfl w.heap.size 5 i0 (.int .u8 0) 1 Tryz.underlying42 hi hz0 hz1 .i64 .i64 _ _ m rfl rfl (by omega) (by omega) (by rw [hz2]; omega) (by unfold maxLen; omega) (Nat.le_refl _) ?_)
  intro w0 hown0 hgrow0
  have hown1 := made_owns hown0
  have hbel0 : Below w.heap.size w w0 := (Below.refl _ _).grown hgrow0 (Nat.le_refl _) (fun k hk => by simp at hk)
  have HO1 : Hid (Owns w0 w.heap.size (.slice (some ⟨w.heap.size, 0, none⟩) (List.replicate m (0 : Int)).length m) (List.replicate m 0)) := hown1
  clear hown0 hgrow0 hown1
  go_wp2
  go_loopw [0, 6] (fun q i wr => ∃ (k : Nat) (c : Int) (zs : List Int), k ≤ m ∧ 0 ≤ c ∧ c ≤ 18446744073709551615 ∧ q = .int .u64 c ∧ i = .int .i64 (k - 1) ∧ zs.length = m ∧ Owns wr w.heap.size (.slice (some ⟨w.heap.size, 0, none⟩) zs.length m) zs ∧ digs m n = digs k c ++ zs.drop k ∧ Below w.heap.size w wr) (fun _ i _ => (intOf i + 1).toNat)
  case atStart => exact ⟨m, n, _, Nat.le_refl _, h0, h1, rfl, by go_num, by simp, HO1.out, by simp, hbel0⟩
  case round =>
    clear HO1 hbel0 w0
    obtain ⟨k, c, zs, hk, hc0, hc1, rfl, rfl, hzl, hown, hd, hbel⟩ := hrel
    have HZ : Hid (zs.length = m ∧ Owns wr w.heap.size (.slice (some ⟨w.heap.size, 0, none⟩) zs.length m) zs ∧ digs m n = digs k c ++ zs.drop k ∧ Below w.heap.size w wr) := ⟨hzl, hown, hd, hbel⟩
    clear hd hzl hbel
    cases k with
    | zero =>
      clear hown
      go_wp2
      go_ret
      obtain ⟨z1, z2, z3, z4⟩ := HZ.out
      have e : digs m n = zs := by rw [z3]; simp [digs]
      rw [z1] at z2
      exact ⟨_, rfl, by rw [e]; exact z2, z4⟩
    | succ k =>
      have e : ((k + 1 : Nat) : Int) - 1 = k := by omega
      rw [e]
      clear e
      have hcz := owns_cell hown k (by rw [HZ.out.1]; omega)
      have hfz := hown.frozenAt k
      clear hown
      go_wp2
      obtain ⟨z1, z2, z3, z4⟩ := HZ.out
      have R := owns_set z2 k (c % 256)
      have R2 : digs m n = digs k (c / 256) ++ (zs.set k (c % 256)).drop k := by
        rw [drop_set _ (by omega), z3]; simp [digs]
      have R3 : Below w.heap.size w (wr.setCell ⟨w.heap.size, k, none⟩ (.int .u8 (c % 256))) := z4.setCell (Nat.le_refl _) _
      go_roundw
      case rel => exact ⟨k, c / 256, zs.set k (c % 256), by omega, by omega, by omega, rfl, by go_num, by simpa using z1, R.1, R2, R3⟩
      case measure => simp [intOf]

set_option maxHeartbeats 400000 in
theorem refInt32_any (n : Int) (w : World) (h0 : -2147483648 ≤ n) (h1 : n ≤ 2147483647) :
    Calls Tryz.prog 89 #[.int .i32 n] w fun e w' => ∃ v', e = .returned v' ∧ Owns w' w.heap.size v' (be4 (up32 n)) ∧ Below w.heap.size w w' := by
  by_cases hn : n < 0
  · have hd : Hid (digs 4 (n + 4294967296) = be4 (up32 n)) := by
      have : up32 n = n + 4294967296 := by unfold up32; omega
      show _ = _
      rw [this]; exact digs4 _ (by omega) (by omega)
    go_enter Tryz.func89, Tryz.ntmps89
    go_wp2_with fail
    refine (digits_any (n + 4294967296) 4 _ (by omega) (by omega) (by omega)).mono ?_
    rintro e w1 ⟨v, rfl, hp⟩
    rw [hd.out] at hp
    have HP : Hid (Owns w1 w.heap.size v (be4 (up32 n)) ∧ Below w.heap.size w w1) := hp
    clear hp
    go_wp2
    go_ret
    exact ⟨_, rfl, HP.out⟩
  · have hd : Hid (digs 4 n = be4 (up32 n)) := by
      have : up32 n = n := by unfold up32; omega
      show _ = _
      rw [this]; exact digs4 _ (by omega) (by omega)
    go_enter Tryz.func89, Tryz.ntmps89
    go_wp2_with fail
    refine (digits_any n 4 _ (by omega) (by omega) (by omega)).mono ?_
    rintro e w1 ⟨v, rfl, hp⟩
    rw [hd.out] at hp
    have HP : Hid (Owns w1 w.heap.size v (be4 (up32 n)) ∧ Below w.heap.size w w1) := hp
    clear hp
    go_wp2
    go_ret
    exact ⟨_, rfl, HP.out⟩

end Go.Proofs.YtobnggkgpenmfaaGreatDoor

/- What the document's own bytes of an int64 are: Int64 of lagoonref01. -/
namespace Go.Proofs.YtobnggkgpenmfaaGreatDoor
open Go.RowKit
set_option maxRecDepth 8000

/-- The loop of lagoonref01.Int64 below 0 takes each digit from 255. -/
theorem flip_digs (m : Nat) (n : Int) : (digs m n).map (fun x => 255 - x) = digs m (-1 - n) := by
  induction m generalizing n with
  | zero => rfl
  | succ m ih =>
    simp only [digs, List.map_append, ih, List.map_cons, List.map_nil]
    rw [show (-1 - n) / 256 = -1 - n / 256 by omega, show (-1 - n) % 256 = 255 - n % 256 by omega]

theorem digs_up64 (n : Int) (h0 : -9223372036854775808 ≤ n) (h1 : n < 0) : digs 8 n = be8 (up64 n) := by
  rw [← digs8 (up64 n) (up64_bd n).1 (up64_bd n).2]
  have : up64 n = n + 18446744073709551616 := by unfold up64; omega
  rw [this]
  simp only [digs, List.nil_append, List.cons_append, List.cons.injEq, and_true]
  omega

theorem flip_nth (zs : List Int) (k : Nat) (hk : k < zs.length) (ds : List Int) (h : ∀ j, j < zs.length → zs.getD j 0 = if j < k then 255 - ds.getD j 0 else ds.getD j 0) :
    ∀ j, j < (zs.set k (255 - ds.getD k 0)).length → (zs.set k (255 - ds.getD k 0)).getD j 0 = if j < k + 1 then 255 - ds.getD j 0 else ds.getD j 0 := by
  intro j hj
  simp at hj
  rw [nth_set zs k j _ hk]
  by_cases e : j = k
  · rw [if_pos e, if_pos (by omega), e]
  · rw [if_neg e, h j hj]
    by_cases e2 : j < k
    · rw [if_pos e2, if_pos (by omega)]
    · rw [if_neg e2, if_neg (by omega)]

set_option maxHeartbeats 1000000 in
theorem refInt64_any (n : Int) (w : World) (h0 : -9223372036854775808 ≤ n) (h1 : n ≤ 9223372036854775807) :
    Calls Tryz.prog 52 #[.int .i64 n] w fun e w' => ∃ v', e = .returned v' ∧ Owns w' w.heap.size v' (be8 (up64 n)) ∧ Below w.heap.size w w' := by
  by_cases hn : 0 ≤ n
  · have hd : Hid (digs 8 n = be8 (up64 n)) := by
      have : up64 n = n := by unfold up64; omega
      show _ = _
      rw [this]; exact digs8 _ (by omega) (by omega)
    go_enter Tryz.func52, Tryz.ntmps52
    go_wp2_with fail
    refine (digits_any n 8 _ (by omega) (by omega) (by omega)).mono ?_
    rintro e w1 ⟨v, rfl, hp⟩
    rw [hd.out] at hp
    have HP : Hid (Owns w1 w.heap.size v (be8 (up64 n)) ∧ Below w.heap.size w w1) := hp
    clear hp
    go_wp2
    go_ret
    exact ⟨_, rfl, HP.out⟩
  · have hd : Hid (digs 8 n = be8 (up64 n)) := digs_up64 n h0 (by omega)
    have HF : Hid ((digs 8 (-1 - n)).map (fun x => 255 - x) = digs 8 n) := by
      have := flip_digs 8 (-1 - n)
      rw [show -1 - (-1 - n) = n by omega] at this
      exact this
    have HDB : Hid (Byts (digs 8 (-1 - n))) := digs_byts _ _
    have HDL : Hid ((digs 8 (-1 - n)).length = 8) := digs_len _ _
    go_enter Tryz.func52, Tryz.ntmps52
    go_wp2_with fail
    refine (digits_any (-1 - n) 8 _ (by omega) (by omega) (by omega)).mono ?_
    rintro e w1 ⟨v, rfl, ho, hbel⟩
    generalize digs 8 (-1 - n) = ds at *
    obtain ⟨g, c, hv, hg⟩ := owns_some ho (by rw [HDL.out]; omega)
    rw [HDL.out] at hv
    subst hv
    have HP : Hid (Owns w1 w.heap.size (.slice (some ⟨g, 0, none⟩) 8 c) ds ∧ Below w.heap.size w w1) := ⟨ho, hbel⟩
    clear ho hbel
    go_wp2
    go_loopw [4] (fun i wr => ∃ (k : Nat) (zs : List Int), k ≤ 8 ∧ i = .int .i64 k ∧ zs.length = 8 ∧ Owns wr w.heap.size (.slice (some ⟨g, 0, none⟩) 8 c) zs ∧ (∀ j, j < zs.length → zs.getD j 0 = if j < k then 255 - ds.getD j 0 else ds.getD j 0) ∧ Below w.heap.size w wr) (fun i _ => 8 - (intOf i).toNat)
    case atStart => exact ⟨0, ds, by omega, rfl, HDL.out, HP.out.1, fun j hj => by simp, HP.out.2⟩
    case round =>
      clear HP
      obtain ⟨k, zs, hk, rfl, hzl, hown, hpt, hbel⟩ := hrel
      have HZ : Hid (zs.length = 8 ∧ Owns wr w.heap.size (.slice (some ⟨g, 0, none⟩) zs.length c) zs ∧ (∀ j, j < zs.length → zs.getD j 0 = if j < k then 255 - ds.getD j 0 else ds.getD j 0) ∧ Below w.heap.size w wr) := ⟨hzl, by rw [hzl]; exact hown, hpt, hbel⟩
      clear hown hpt hbel hzl
      by_cases hlt : k < 8
      · have hcz := owns_cell HZ.out.2.1 k (by rw [HZ.out.1]; omega)
        rw [HZ.out.2.2.1 k (by rw [HZ.out.1]; omega), if_neg (by omega)] at hcz
        have hfz := HZ.out.2.1.frozenAt k
        have hx := HDB.out.nth k
        have HN := flip_nth zs k (by rw [HZ.out.1]; omega) ds HZ.out.2.2.1
        have HN' : Hid _ := HN
        have HS : Hid (Owns (wr.setCell ⟨g, k, none⟩ (.int .u8 (255 - ds.getD k 0))) w.heap.size (.slice (some ⟨g, 0, none⟩) (zs.set k (255 - ds.getD k 0)).length c) (zs.set k (255 - ds.getD k 0))) := (owns_set HZ.out.2.1 k (255 - ds.getD k 0)).1
        clear HN
        generalize ds.getD k 0 = x at *
        go_wp2
        have z2 := HS.out
        rw [List.length_set, HZ.out.1] at z2
        have R3 : Below w.heap.size w (wr.setCell ⟨g, k, none⟩ (.int .u8 (255 - x))) := HZ.out.2.2.2.setCell hg _
        go_roundw
        case rel => exact ⟨k + 1, zs.set k (255 - x), by omega, by go_num, by rw [List.length_set]; exact HZ.out.1, z2, HN'.out, R3⟩
        case measure => simp [intOf]; omega
      · have he : zs = be8 (up64 n) := by
          rw [← hd.out, ← HF.out]
          refine list_of_nths (by rw [List.length_map, HZ.out.1, HDL.out]) (fun j hj => ?_)
          rw [HZ.out.2.2.1 j hj, if_pos (by have := HZ.out.1; omega)]
          have hj' : j < ds.length := by have := HZ.out.1; have := HDL.out; omega
          simp [List.getD_eq_getElem?_getD, hj']
        have z2 := HZ.out.2.1
        rw [HZ.out.1, he] at z2
        have HR : Hid (Owns wr w.heap.size (.slice (some ⟨g, 0, none⟩) 8 c) (be8 (up64 n)) ∧ Below w.heap.size w wr) := ⟨z2, HZ.out.2.2.2⟩
        clear z2 he HZ
        go_wp2
        go_ret
        exact ⟨_, rfl, HR.out⟩

end Go.Proofs.YtobnggkgpenmfaaGreatDoor
