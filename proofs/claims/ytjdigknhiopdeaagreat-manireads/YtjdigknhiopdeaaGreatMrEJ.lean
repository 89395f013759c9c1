/- The document's own Reader (lagoonref01): what it is in memory, and its reading of numbers. -/
import Derived.Test.YtjdigknhiopdeaaGreatWorksJ
import Derived.Deep.QuietTactic
import Derived.BigQuiet
import Derived.Deep.RegionHeld
import Derived.Test.YtjdigknhiopdeaaGreatMrCJ
import Derived.Test.YtjdigknhiopdeaaGreatCopyJ
import Derived.Test.YtjdigknhiopdeaaGreatMbCJ
import Derived.Test.YtjdigknhiopdeaaGreatDkTJ
import Derived.Test.YtjdigknhiopdeaaGreatFr3J
namespace Go.Proofs.YtjdigknhiopdeaaGreat
open Go.RowKit
set_option maxRecDepth 8000

/-- The document's Reader at block g: its bytes bs, of which p are read, and its fault. -/
def IsQ (w : World) (g : Nat) (v : Value) (bs : List Int) (p : Nat) (f : Int) : Prop :=
  w.heap[g]? = some (.cells #[v, .int .i64 p, .int .i64 f] 70 (0, 0)) ∧ Sees w v bs ∧ p ≤ bs.length ∧ bs.length ≤ 70000000000000 ∧ (bs ≠ [] → v.ownBlock ≠ some g)

/-- What a call of it leaves. -/
def QTo (w : World) (g : Nat) (v : Value) (bs : List Int) (s : Rd) (w' : World) : Prop := ∃ p, bs.drop p = s.rest ∧ IsQ w' g v bs p s.fault ∧ Kept w w' (· = g)

section
variable {w w' : World} {g : Nat} {v : Value} {bs : List Int} {p : Nat} {f : Int}

theorem IsQ.c0 (h : IsQ w g v bs p f) : w.cell? ⟨g, 0, none⟩ = some v := by rw [cell_of_row w g 0 _ _ _ h.1]; rfl
theorem IsQ.c1 (h : IsQ w g v bs p f) : w.cell? ⟨g, 1, none⟩ = some (.int .i64 p) := by rw [cell_of_row w g 1 _ _ _ h.1]; rfl
theorem IsQ.c2 (h : IsQ w g v bs p f) : w.cell? ⟨g, 2, none⟩ = some (.int .i64 f) := by rw [cell_of_row w g 2 _ _ _ h.1]; rfl
theorem IsQ.fr (h : IsQ w g v bs p f) (j : Nat) : w.frozen? ⟨g, j, none⟩ = false := frozen_of_row w g j _ _ h.1

theorem IsQ.kept {S : Nat → Prop} (h : IsQ w g v bs p f) (hk : Kept w w' S) (hg : ¬ S g) (hv : ∀ k, v.ownBlock = some k → ¬ S k) : IsQ w' g v bs p f :=
  ⟨hk.heap h.1 hg, h.2.1.kept hk hv, h.2.2⟩

theorem IsQ.set1 (h : IsQ w g v bs p f) {q : Nat} (hq : q ≤ bs.length) : IsQ (w.setCell ⟨g, 1, none⟩ (.int .i64 q)) g v bs q f := by
  refine ⟨?_, h.2.1.set _ _ h.2.2.2.2, hq, h.2.2.2⟩
  rw [setCell_eq_setRow w g 1 _ _ _ _ h.1, setRow_heap w g _ _ _ _ h.1]; rfl
theorem IsQ.set2 (h : IsQ w g v bs p f) (e : Int) : IsQ (w.setCell ⟨g, 2, none⟩ (.int .i64 e)) g v bs p e := by
  refine ⟨?_, h.2.1.set _ _ h.2.2.2.2, h.2.2⟩
  rw [setCell_eq_setRow w g 2 _ _ _ _ h.1, setRow_heap w g _ _ _ _ h.1]; rfl

theorem QTo.stay (h : IsQ w g v bs p f) (n : Int) : QTo w g v bs ⟨n, bs.drop p, f⟩ w := ⟨p, rfl, h, Kept.refl _ _⟩
end

section
variable (g : Nat) (v : Value) (bs : List Int) (p : Nat) (f : Int) (w : World)

set_option maxHeartbeats 1000000 in
theorem qNumber_any (n : Nat) (h : IsQ w g v bs p f) (hb : Byts bs) (h8 : n ≤ 8) :
    Calls Tryz.prog 41 #[.pointer (some ⟨g, 0, none⟩), .int .i64 n] w fun e w' => e = .returned (.tuple #[.int .u64 (rdNum n (bs.drop p) f).out, .bool (decide (f = 0 ∧ n ≤ (bs.drop p).length))]) ∧ QTo w g v bs (rdNum n (bs.drop p) f) w' := by
  have c0 := h.c0
  have c1 := h.c1
  have c2 := h.c2
  have f2 := h.fr 2
  have H : Hid (IsQ w g v bs p f) := h
  obtain ⟨ao, cap, rfl, _, q2, _, h3⟩ := h.2.1
  have H3 : Hid (bs = [] ∨ ∃ b off, ao = some ⟨b, off, none⟩ ∧ ∀ i, i < bs.length → w.cell? ⟨b, off + i, none⟩ = some (.int .u8 (bs.getD i 0))) := h3
  unfold maxLen at q2
  have hp := h.2.2.1
  have hl := h.2.2.2.1
  have hdl : (bs.drop p).length = bs.length - p := List.length_drop ..
  clear h h3
  by_cases hf : f = 0
  · subst hf
    by_cases hs : bs.length - p < n
    · have e1 : rdNum n (bs.drop p) 0 = ⟨0, bs.drop p, 10⟩ := by unfold rdNum; rw [if_neg (by simp), if_pos (by omega)]
      have e2 : decide ((0 : Int) = 0 ∧ n ≤ (bs.drop p).length) = false := by simp; omega
      rw [e1, e2]
      clear e1 e2
      have hb1 : decide ((bs.length : Int) - (p : Int) < (n : Int)) = true := by simp; omega
      go_enter Tryz.func41, Tryz.ntmps41
      go_wp2
      go_quiet (fail)
      go_wp2
      go_ret2
      exact ⟨rfl, p, rfl, (H.out.kept ((Kept.refl w (fun _ => False)).drewN nq) (fun h => h) (fun _ _ h => h)).set2 10, ((Kept.refl w _).drewN nq).setCell _ _ (fun _ => rfl)⟩
    · have e1 : rdNum n (bs.drop p) 0 = ⟨num ((bs.drop p).take n), (bs.drop p).drop n, 0⟩ := by unfold rdNum; rw [if_neg (by simp), if_neg (by omega)]
      have e2 : decide ((0 : Int) = 0 ∧ n ≤ (bs.drop p).length) = true := by simp; omega
      rw [e1, e2]
      clear e1 e2
      have hb1 : decide ((bs.length : Int) - (p : Int) < (n : Int)) = false := by simp; omega
      have hbd : Byts (bs.drop p) := fun x hx => hb x (List.mem_of_mem_drop hx)
      go_enter Tryz.func41, Tryz.ntmps41
      go_wp2
      go_quiet (fail)
      go_wp2
      go_loopw [6, 7] (fun nv iv wr => ∃ k : Nat, k ≤ n ∧ iv = .int .i64 k ∧ nv = .int .u64 (num ((bs.drop p).take k)) ∧ IsQ wr g (.slice ao bs.length cap) bs (p + k) 0 ∧ Kept w wr (· = g)) (fun _ iv _ => n - (intOf iv).toNat)
      case atStart => exact ⟨0, Nat.zero_le _, rfl, rfl, H.out.kept ((Kept.refl w (fun _ => False)).drewN nq) (fun h => h) (fun _ _ h => h), (Kept.refl w _).drewN nq⟩
      case round =>
        obtain ⟨k, hk, rfl, rfl, hQ, hK⟩ := hrel
        have HQ : Hid (IsQ wr g (.slice ao bs.length cap) bs (p + k) 0 ∧ Kept w wr (· = g)) := ⟨hQ, hK⟩
        by_cases hlt : k < n
        · rcases hQ.2.1 with ⟨ao', cap', e, _, _, _, h3⟩
          simp only [Value.slice.injEq, true_and] at e
          obtain ⟨rfl, rfl⟩ := e
          rcases h3 with h3 | ⟨b, off, rfl, h3⟩
          · have h0 : bs.length = 0 := by rw [h3]; rfl
            omega
          have hc := h3 (p + k) (by omega)
          have d0 := hQ.c0
          have d1 := hQ.c1
          have df := hQ.fr 1
          have hx := hb.nth (p + k)
          have hd := num_bd8 ((bs.drop p).take n) (fun x hx => hbd x (List.mem_of_mem_take hx)) k (by rw [List.length_take]; omega) (by rw [List.length_take]; omega)
          rw [List.take_take, Nat.min_eq_left (by omega)] at hd
          have hnx := num_next (bs.drop p) k (by omega)
          have hgx : (bs.drop p).getD k 0 = bs.getD (p + k) 0 := by simp [List.getD_eq_getElem?_getD]
          rw [hgx] at hnx
          have HS : Hid _ := hnx
          generalize bs.getD (p + k) 0 = x at *
          generalize hA : num ((bs.drop p).take k) = A at *
          clear hA h3 hnx hgx hQ hK c0 c1 c2 f2 hbd
          go_wp2
          go_quiet (fail)
          go_wp2
          go_roundw
          case rel =>
            have hq := (HQ.out.1.kept ((Kept.refl wr (fun _ => False)).drewN nq) (fun h => h) (fun _ _ h => h)).set1 (q := p + (k + 1)) (by omega)
            have e : ((p + (k + 1) : Nat) : Int) = (p : Int) + (k : Int) + 1 := by omega
            rw [e] at hq
            exact ⟨k + 1, by omega, by go_num, by rw [HS.out], hq, (HQ.out.2.drewN nq).setCell _ _ (fun _ => rfl)⟩
          case measure => simp [intOf]; omega
        · obtain rfl : k = n := by omega
          go_wp2
          go_ret2
          exact ⟨rfl, p + k, by rw [List.drop_drop], HQ.out⟩
  · have e1 : rdNum n (bs.drop p) f = ⟨0, bs.drop p, f⟩ := by unfold rdNum; rw [if_pos hf]
    have e2 : decide (f = 0 ∧ n ≤ (bs.drop p).length) = false := by simp [hf]
    rw [e1, e2]
    have hb3 : (f != 0) = true := by simp [hf]
    clear hf e1 e2
    go_enter Tryz.func41, Tryz.ntmps41
    go_wp2
    go_ret2
    exact ⟨rfl, QTo.stay H.out 0⟩

theorem qUint32_any (h : IsQ w g v bs p f) (hb : Byts bs) : Calls Tryz.prog 23 #[.pointer (some ⟨g, 0, none⟩)] w fun e w' => e = .returned (.int .u32 (id (rdNum 4 (bs.drop p) f).out)) ∧ QTo w g v bs (rdNum 4 (bs.drop p) f) w' := by
  have H : Hid (IsQ w g v bs p f) := h
  have hbd : Byts (bs.drop p) := fun x hx => hb x (List.mem_of_mem_drop hx)
  have hx := rdNum_bd 4 (bs.drop p) f hbd
  have h1 : (256 : Int) ^ 4 = 4294967296 := by decide
  rw [h1] at hx
  clear h h1 hbd
  go_enter Tryz.func23, Tryz.ntmps23
  go_wp2_with fail
  refine (qNumber_any g v bs p f _ 4 H.out hb (by omega)).mono ?_
  rintro e w1 ⟨rfl, hq⟩
  have HQ : Hid (QTo w g v bs (rdNum 4 (bs.drop p) f) w1) := hq
  clear hq
  generalize hY : (rdNum 4 (bs.drop p) f).out = y at *
  have HY : Hid ((rdNum 4 (bs.drop p) f).out = y) := hY
  clear hY
  generalize decide (f = 0 ∧ 4 ≤ (bs.drop p).length) = t at *
  go_wp2
  go_ret
  refine ⟨?_, HQ.out⟩
  rw [HY.out]
  rfl

end
end Go.Proofs.YtjdigknhiopdeaaGreat

/- The document's own Reader (lagoonref01): Int64. -/
namespace Go.Proofs.YtjdigknhiopdeaaGreat
open Go.RowKit
set_option maxRecDepth 8000

theorem wrap64_idR {n : Int} (h0 : -9223372036854775808 ≤ n) (h1 : n ≤ 9223372036854775807) : wrap64 n = n := by unfold wrap64; omega

section
variable (g : Nat) (v : Value) (bs : List Int) (p : Nat) (f : Int) (w : World)

set_option maxHeartbeats 400000 in
theorem qInt64_any (h : IsQ w g v bs p f) (hb : Byts bs) : Calls Tryz.prog 24 #[.pointer (some ⟨g, 0, none⟩)] w fun e w' => e = .returned (.int .i64 (wrap64 (rdNum 8 (bs.drop p) f).out)) ∧ QTo w g v bs (rdNum 8 (bs.drop p) f) w' := by
  have H : Hid (IsQ w g v bs p f) := h
  have hbd : Byts (bs.drop p) := fun x hx => hb x (List.mem_of_mem_drop hx)
  have hx := rdNum_bd 8 (bs.drop p) f hbd
  have h1 : (256 : Int) ^ 8 = 18446744073709551616 := by decide
  rw [h1] at hx
  clear h h1 hbd
  go_enter Tryz.func24, Tryz.ntmps24
  go_wp2_with fail
  refine (qNumber_any g v bs p f _ 8 H.out hb (by omega)).mono ?_
  rintro e w1 ⟨rfl, hq⟩
  have HQ : Hid (QTo w g v bs (rdNum 8 (bs.drop p) f) w1) := hq
  clear hq
  generalize hY : (rdNum 8 (bs.drop p) f).out = y at *
  have HY : Hid ((rdNum 8 (bs.drop p) f).out = y) := hY
  clear hY
  generalize decide (f = 0 ∧ 8 ≤ (bs.drop p).length) = t at *
  by_cases hy : 9223372036854775807 < y
  · go_wp2
    go_ret
    refine ⟨?_, HQ.out⟩
    rw [HY.out]
    have e : wrap64 y = y - 18446744073709551616 := by unfold wrap64; omega
    rw [e]
    have e2 : -1 - (18446744073709551615 - y) = y - 18446744073709551616 := by omega
    show Ending.returned (.int .i64 (-1 - (18446744073709551615 - y))) = _
    rw [e2]
  · go_wp2
    go_ret
    refine ⟨?_, HQ.out⟩
    rw [HY.out, wrap64_idR (by omega) (by omega)]
    rfl

end
end Go.Proofs.YtjdigknhiopdeaaGreat

/- lagoonref11.Read of any bytes: the manifest whose bytes they are, or ErrMani. -/
namespace Go.Proofs.YtjdigknhiopdeaaGreat
open Go.RowKit Go.Shelf
set_option maxRecDepth 8000

set_option maxHeartbeats 400000 in
theorem refNew_m (v : Value) (bs : List Int) (w : World) (h : Sees w v bs) (hl : bs.length ≤ 1000) :
    Calls Tryz.prog 22 #[v] w fun e w' => ∃ g v', e = .returned (.pointer (some ⟨g, 0, none⟩)) ∧ IsQ w' g v' bs 0 0 ∧ w.heap.size ≤ g ∧ (∀ k, v'.ownBlock = some k → w.heap.size ≤ k ∧ k < g) ∧ Below w.heap.size w w' := by
  have H : Hid (Sees w v bs ∧ bs.length ≤ 1000) := ⟨h, hl⟩
  clear h hl
  go_enter Tryz.func22, Tryz.ntmps22
  go_wp2_with fail
  refine (copyBytes_any _ bs _ H.out.1 (by have := H.out.2; omega)).mono ?_
  rintro e w1 ⟨v1, rfl, ho, hb⟩
  obtain ⟨a0, a1, a2, rfl⟩ : ∃ a n c, v1 = .slice a n c := by obtain ⟨a, c, e, _⟩ := Sees.own ho; exact ⟨a, _, c, e⟩
  have HB : Hid (Owns w1 w.heap.size (.slice a0 a1 a2) bs ∧ Below w.heap.size w w1) := ⟨ho, hb⟩
  clear ho hb
  go_wp2_with fail
  go_ret
  refine ⟨_, .slice a0 a1 a2, rfl, ⟨heap_alloc_new _ _, (Sees.own HB.out.1).below (one_allocK _ _) (Nat.le_refl _), Nat.zero_le _, by have := H.out.2; omega, fun _ e => ?_⟩, HB.out.2.size, fun k e => HB.out.1.lt k e, HB.out.2.alloc HB.out.2.size _⟩
  have := (HB.out.1.lt _ e).2
  omega

abbrev zeroR : Array Value := #[.int .u32 0, .int .u32 0, .int .u32 0, .int .i64 0, .int .i64 0]

/-- The document's Reader in a state, the manifest that is filled beside it. -/
structure QS (w W : World) (g q : Nat) (v : Value) (bs : List Int) (st : List Int × Int) (cs : Array Value) : Prop where
  bel : Below w.heap.size w W
  r0 : W.heap[w.heap.size]? = some (.cells zeroR 27 (0, 0))
  rq : W.heap[q]? = some (.cells cs 27 (0, 0))
  rd : ∃ p, IsQ W g v bs p st.2 ∧ bs.drop p = st.1
  ne : g ≠ q ∧ w.heap.size < g ∧ w.heap.size < q
  vq : ∀ k, v.ownBlock = some k → k ≠ q ∧ w.heap.size < k

theorem QS.to {w W W' : World} {g q : Nat} {v : Value} {bs : List Int} {st : List Int × Int} {cs : Array Value} (h : QS w W g q v bs st cs) {s : Rd} (k : QTo W g v bs s W') : QS w W' g q v bs (s.rest, s.fault) cs := by
  obtain ⟨p, e, i, kp⟩ := k
  have hn := h.ne
  exact ⟨h.bel.trans (kp.below h.bel.size (fun k e => by omega)), kp.heap h.r0 (fun e => by omega), kp.heap h.rq (fun e => hn.1 e.symm), ⟨p, i, e⟩, hn, h.vq⟩

theorem QS.set {w W : World} {g q : Nat} {v : Value} {bs : List Int} {st : List Int × Int} {cs : Array Value} (h : QS w W g q v bs st cs) (i : Nat) (x : Value) : QS w (W.setCell ⟨q, i, none⟩ x) g q v bs st (cs.setIfInBounds i x) := by
  have kp : Kept W (W.setCell ⟨q, i, none⟩ x) (fun k => k = q) := Kept.setCell (Kept.refl _ _) ⟨q, i, none⟩ x (fun _ => rfl)
  have hn := h.ne
  obtain ⟨p, hp, e⟩ := h.rd
  exact ⟨h.bel.trans (kp.below h.bel.size (fun k e => by omega)), kp.heap h.r0 (fun e => by omega), heap_setK x h.rq, ⟨p, hp.kept kp hn.1 (fun k e => (h.vq k e).1), e⟩, hn, h.vq⟩

theorem QS.later {w W W' : World} {g q : Nat} {v : Value} {bs : List Int} {st : List Int × Int} {cs : Array Value} (h : QS w W g q v bs st cs) (k : Below W.heap.size W W') : QS w W' g q v bs st cs := by
  have l0 := lt_of_block h.r0
  have l1 := lt_of_block h.rq
  obtain ⟨p, hp, e⟩ := h.rd
  have l2 := lt_of_block hp.1
  refine ⟨h.bel.trans (k.mono h.bel.size), (Below.kept k).heap h.r0 (fun e => by omega), (Below.kept k).heap h.rq (fun e => by omega), ⟨p, ?_, e⟩, h.ne, h.vq⟩
  exact ⟨(Below.kept k).heap hp.1 (fun e => by omega), hp.2.1.below k (Nat.le_refl _), hp.2.2⟩

theorem QS.u32 {w W : World} {g q : Nat} {v : Value} {bs : List Int} {st : List Int × Int} {cs : Array Value} (h : QS w W g q v bs st cs) (hb : Byts bs) :
    Calls Tryz.prog 23 #[.pointer (some ⟨g, 0, none⟩)] W fun e w' => e = .returned (.int .u32 (rdNum 4 st.1 st.2).out) ∧ QS w w' g q v bs ((rdNum 4 st.1 st.2).rest, (rdNum 4 st.1 st.2).fault) cs := by
  obtain ⟨p, hp, e⟩ := h.rd
  refine (qUint32_any g v bs p st.2 W hp hb).mono ?_
  rintro _ w' ⟨rfl, k⟩
  rw [e] at k
  exact ⟨by rw [e]; rfl, h.to k⟩

theorem QS.i64 {w W : World} {g q : Nat} {v : Value} {bs : List Int} {st : List Int × Int} {cs : Array Value} (h : QS w W g q v bs st cs) (hb : Byts bs) :
    Calls Tryz.prog 24 #[.pointer (some ⟨g, 0, none⟩)] W fun e w' => e = .returned (.int .i64 (wrap64 (rdNum 8 st.1 st.2).out)) ∧ QS w w' g q v bs ((rdNum 8 st.1 st.2).rest, (rdNum 8 st.1 st.2).fault) cs := by
  obtain ⟨p, hp, e⟩ := h.rd
  refine (qInt64_any g v bs p st.2 W hp hb).mono ?_
  rintro _ w' ⟨rfl, k⟩
  rw [e] at k
  exact ⟨by rw [e], h.to k⟩
end Go.Proofs.YtjdigknhiopdeaaGreat
